/- LNo, LLk, LLi, LLs, LLr, LLa, LLb -/
import Derived.Test.YtpjbffggeegdaaaM03
import Derived.Test.YtpjbffggeegdaaaM00
import Derived.Laws.AppendOwn
import Derived.Deep.AppendLies
import Derived.ArgAppend
import Derived.Test.YtpjbffggeegdaaaRows
import Derived.WalkKit
import Derived.WalkSpells
import Derived.WalkLawsBesides
import Derived.StillTactics
import Derived.OwnWalk
import Derived.Laws.Pointers
import Derived.Deep.RegionHeld3
import Derived.Deep.RegionLawGrows
import Derived.OneCell
/- localFieldsFit of the program. -/
namespace Go.Proofs.Ytpjbffggeegdaaa.Lo
open Go.RowKit

/-- What localFieldsFit owes. -/
def NoPost (w : World) (v : Bool) (e : Ending) (w' : World) : Prop := e = .returned (.bool v) ∧ Below w.heap.size w w'

theorem len0 (n : Nat) : (((n : Nat) : Int) == 0) = decide (n = 0) := by
  by_cases h : n = 0
  · rw [h]; rfl
  · rw [decide_eq_false h]
    exact beq_eq_false_iff_ne.2 (by omega)

set_option maxHeartbeats 400000 in
set_option maxRecDepth 100000 in
theorem no_end (w : World) (ix : Int) (fr : ByteArray) (sv : Value) (kids : F) (hs : Sl w sv kids) :
    Calls Try.prog 35 #[.agg #[.int .i64 1, .string fr, .int .i64 ix, sv]] w (NoPost w (shapeB 1 fr ix kids)) := by
  obtain ⟨a, cap, rfl, hlen, -⟩ := hs.at
  unfold maxLen at hlen
  clear hs
  have hl := len0 kids.len
  have hv : shapeB 1 fr ix kids = (fr.toList.isEmpty && ix == 0 && decide (kids.len = 0)) := rfl
  rw [hv]
  clear hv
  go_enter Try.func35, Try.ntmps35
  go_wp2_with fail
  all_goals go_ret
  all_goals refine ⟨ret_bool ?_, alloc_below _ _⟩
  all_goals simp_all

set_option maxHeartbeats 400000 in
set_option maxRecDepth 100000 in
theorem no_var (w : World) (ix : Int) (fr : ByteArray) (sv : Value) (kids : F) (hs : Sl w sv kids) :
    Calls Try.prog 35 #[.agg #[.int .i64 5, .string fr, .int .i64 ix, sv]] w (NoPost w (shapeB 5 fr ix kids)) := by
  obtain ⟨a, cap, rfl, hlen, -⟩ := hs.at
  unfold maxLen at hlen
  clear hs
  have hl := len0 kids.len
  have hv : shapeB 5 fr ix kids = (fr.toList.isEmpty && decide (kids.len = 0)) := rfl
  rw [hv]
  clear hv
  go_enter Try.func35, Try.ntmps35
  go_wp2_with fail
  all_goals go_ret
  all_goals refine ⟨ret_bool ?_, alloc_below _ _⟩
  all_goals simp_all

set_option maxHeartbeats 400000 in
set_option maxRecDepth 100000 in
theorem no_other (w : World) (k ix : Int) (fr : ByteArray) (sv : Value) (kids : F) (h1 : ¬ k = 1) (h2 : ¬ k = 2) (h3 : ¬ k = 3) (h4 : ¬ k = 4) (h5 : ¬ k = 5) :
    Calls Try.prog 35 #[.agg #[.int .i64 k, .string fr, .int .i64 ix, sv]] w (NoPost w (shapeB k fr ix kids)) := by
  have hv : shapeB k fr ix kids = false := by simp [shapeB, h1, h2, h3, h4, h5]
  rw [hv]
  have e1 : (k == 1) = false := beq_eq_false_iff_ne.2 h1
  have e2 : (k == 2) = false := beq_eq_false_iff_ne.2 h2
  have e3 : (k == 3) = false := beq_eq_false_iff_ne.2 h3
  have e4 : (k == 4) = false := beq_eq_false_iff_ne.2 h4
  have e5 : (k == 5) = false := beq_eq_false_iff_ne.2 h5
  clear hv h1 h2 h3 h4 h5
  go_enter Try.func35, Try.ntmps35
  go_wp2_with fail
  go_ret
  exact ⟨rfl, alloc_below _ _⟩

set_option maxHeartbeats 400000 in
set_option maxRecDepth 100000 in
theorem no_rec (w : World) (ix : Int) (fr : ByteArray) (sv : Value) (kids : F) (hs : Sl w sv kids) :
    Calls Try.prog 35 #[.agg #[.int .i64 4, .string fr, .int .i64 ix, sv]] w (NoPost w (shapeB 4 fr ix kids)) := by
  obtain ⟨a, cap, rfl, hlen, hat⟩ := hs.at
  unfold maxLen at hlen
  have hv : shapeB 4 fr ix kids = (fr.toList.isEmpty && ix == 0 && decide (kids.len = 1) && bareB kids) := rfl
  rw [hv]
  clear hv hs
  by_cases hl : kids.len = 1
  · cases kids with
    | nil => simp [F.len] at hl
    | cons lab k' fr' ix' kids' rest =>
      have hr : rest = .nil := nil_of_len (by simp only [F.len] at hl; omega)
      subst hr
      obtain ⟨b', o', rfl, -, -, -, -, d0, -⟩ := hat.head
      simp only [Nat.zero_mul, Nat.add_zero] at d0
      have hbw := World.block_lt_of_cell? _ _ d0
      have hv : (fr.toList.isEmpty && ix == 0 && decide ((F.cons lab k' fr' ix' kids' .nil).len = 1) && bareB (F.cons lab k' fr' ix' kids' .nil)) = (fr.toList.isEmpty && ix == 0 && lab.toList.isEmpty) := by
        simp [F.len, bareB]
      rw [hv]
      clear hv hat hl
      change Calls Try.prog 35 #[.agg #[.int .i64 4, .string fr, .int .i64 ix, .slice (some ⟨b', o', none⟩) 1 cap]] w _
      go_enter Try.func35, Try.ntmps35
      go_wp2_with fail
      all_goals go_ret
      all_goals refine ⟨ret_bool ?_, alloc_below _ _⟩
      all_goals simp_all
  · have hlb : (((kids.len : Nat) : Int) == 1) = false := beq_eq_false_iff_ne.2 (by omega)
    rw [decide_eq_false hl, Bool.and_false, Bool.false_and]
    clear hl hat
    go_enter Try.func35, Try.ntmps35
    go_wp2_with fail
    all_goals go_ret
    all_goals exact ⟨rfl, alloc_below _ _⟩

set_option maxHeartbeats 400000 in
set_option maxRecDepth 100000 in
theorem no_act (w : World) (k ix : Int) (fr : ByteArray) (sv : Value) (kids : F) (hk : k = 2 ∨ k = 3) (hs : Sl w sv kids) :
    Calls Try.prog 35 #[.agg #[.int .i64 k, .string fr, .int .i64 ix, sv]] w (NoPost w (shapeB k fr ix kids)) := by
  obtain ⟨a, cap, rfl, hlen, -⟩ := hs.at
  unfold maxLen at hlen
  have hv : shapeB k fr ix kids = (roleB fr && ix == 0 && branchesB kids) := by
    rcases hk with rfl | rfl <;> rfl
  rw [hv]
  have HS := hide (hs.still (Still.of_below (alloc_below w (.cells #[.int .i64 k, .string fr, .int .i64 ix, .slice a kids.len cap] ( /- t -/ 25)))))
  have BX := Box4.now w (.int .i64 k) (.string fr) (.int .i64 ix) (.slice a kids.len cap) ( /- t -/ 25)
  have HBX := hide BX
  clear hv hs BX
  rcases hk with rfl | rfl
  all_goals
    go_enter Try.func35, Try.ntmps35
    cases hr : roleB fr with
    | false =>
      go_wp2_with (first | (go_at_call 44; refine (implRole _ _).mono ?_; rintro e w' ⟨rfl, rfl⟩) | fail)
      go_ret
      exact ⟨rfl, alloc_below _ _⟩
    | true =>
      cases hi : (ix == 0) with
      | false =>
        go_wp2_with (first | (go_at_call 44; refine (implRole _ _).mono ?_; rintro e w' ⟨rfl, rfl⟩) | fail)
        go_ret
        exact ⟨rfl, alloc_below _ _⟩
      | true =>
        go_wp2_with (first | (go_at_call 44; refine (implRole _ _).mono ?_; rintro e w' ⟨rfl, rfl⟩) | fail)
        refine (implFit _ w.heap.size kids _ HS.out HBX.out.cells.2.2.2).mono ?_
        rintro e w1 ⟨rfl, hb⟩
        have hb2 := alloc_then hb
        clear hb
        cases hbr : branchesB kids with
        | false =>
          go_wp2_with fail
          go_ret
          exact ⟨ret_bool (by rw [hbr]; rfl), hb2⟩
        | true =>
          go_wp2_with fail
          go_ret
          exact ⟨ret_bool (by rw [hbr]; rfl), hb2⟩

/-- localFieldsFit of the program. -/
theorem implShape (w : World) (k ix : Int) (fr : ByteArray) (sv : Value) (kids : F) (hs : Sl w sv kids) :
    Calls Try.prog 35 #[.agg #[.int .i64 k, .string fr, .int .i64 ix, sv]] w fun e w' => e = .returned (.bool (shapeB k fr ix kids)) ∧ Below w.heap.size w w' := by
  by_cases h1 : k = 1
  · subst h1; exact no_end w ix fr sv kids hs
  by_cases h4 : k = 4
  · subst h4; exact no_rec w ix fr sv kids hs
  by_cases h5 : k = 5
  · subst h5; exact no_var w ix fr sv kids hs
  by_cases h2 : k = 2 ∨ k = 3
  · exact no_act w k ix fr sv kids h2 hs
  · exact no_other w k ix fr sv kids h1 (by omega) (by omega) h4 h5

end Go.Proofs.Ytpjbffggeegdaaa.Lo

/- The linked nodes that linkNode makes: what it is that a value is linked as a local type. -/
namespace Go.Proofs.Ytpjbffggeegdaaa.Lo
open Go.RowKit

/-- A block with these cells that may be written. -/
def Blk (w : World) (b : Nat) (cs : Array Value) : Prop := ∃ t, w.heap[b]? = some (.cells cs t (0, 0))
theorem Blk.lt {w : World} {b : Nat} {cs : Array Value} (h : Blk w b cs) : b < w.heap.size := by
  obtain ⟨t, h⟩ := h
  exact (Array.getElem?_eq_some_iff.1 h).1
theorem Blk.same {w w' : World} {b : Nat} {cs : Array Value} (h : Blk w b cs) (e : w'.heap[b]? = w.heap[b]?) : Blk w' b cs := by
  obtain ⟨t, h⟩ := h
  exact ⟨t, e.trans h⟩
theorem Blk.below {w w' : World} {b : Nat} {cs : Array Value} (h : Blk w b cs) (hb : Below w.heap.size w w') : Blk w' b cs := h.same (hb.block _ h.lt)
theorem Blk.only {w w' : World} {b c : Nat} {cs : Array Value} (h : Blk w b cs) (hb : Only c w w') (hc : b ≠ c) : Blk w' b cs := h.same (hb.block _ h.lt hc)
theorem Blk.now (w : World) (cs : Array Value) (t : TypeId) : Blk (w.alloc (.cells cs t)) w.heap.size cs :=
  ⟨t, by show (w.heap.push _)[w.heap.size]? = _; simp⟩
theorem Blk.cell {w : World} {b : Nat} {cs : Array Value} (h : Blk w b cs) (o : Nat) : w.cell? ⟨b, o, none⟩ = cs[o]? := by
  obtain ⟨t, h⟩ := h
  simp [World.cell?, h]
theorem Blk.frozen {w : World} {b : Nat} {cs : Array Value} (h : Blk w b cs) (o : Nat) : w.frozen? ⟨b, o, none⟩ = false := by
  obtain ⟨t, h⟩ := h
  simp [World.frozen?, h]
theorem Blk.set {w : World} {b : Nat} {cs : Array Value} (h : Blk w b cs) (o : Nat) (v : Value) : Blk (w.setCell ⟨b, o, none⟩ v) b (cs.setIfInBounds o v) := by
  obtain ⟨t, h⟩ := h
  exact ⟨t, heap_setCell_same h v⟩

/-- What a node's value is; P reads the row of cells below it. ps: the recursions around, the outermost first. -/
def NodeC (w : World) (k : Int) (fr : ByteArray) (ix : Int) (n : Nat) (v : Value) (ps : List Nat) (bs : List Nat) (P : List Nat → List Value → List Nat → Prop) : Prop :=
  (k = 1 ∧ v = .iface ( /- t -/ 85) (.agg #[]) ∧ bs = []) ∨
  (k = 5 ∧ (∃ l, 0 ≤ ix ∧ ix < ps.length ∧ ps[ps.length - 1 - ix.toNat]? = some l ∧ v = .iface ( /- t -/ 60) (.agg #[.pointer (some ⟨l, 0, none⟩)])) ∧ bs = []) ∨
  (k = 4 ∧ ∃ b s u ks, v = .iface ( /- t -/ 56) (.pointer (some ⟨b, 0, none⟩)) ∧ Blk w b #[u] ∧ b ∉ ps ∧ bs = b :: ks ∧ P (ps ++ [b]) [s, u] ks) ∨
  ((k = 2 ∨ k = 3) ∧ ∃ b r cap cs xs ks, v = .iface ( /- t -/ 40) (.pointer (some ⟨b, 0, none⟩)) ∧ Blk w b #[.int .i64 k, .string fr, .slice (some ⟨r, 0, none⟩) n cap] ∧
    n ≤ cap ∧ cap ≤ maxLen ∧ Blk w r cs ∧ cs.toList.take (n * 2) = xs ∧ bs = b :: r :: ks ∧ P ps xs ks)

/-- The row of cells xs, a label and a node each, is linked as the list. -/
def Lk (w : World) : F → List Nat → List Value → List Nat → Prop
  | .nil, _, xs, bs => xs = [] ∧ bs = []
  | .cons lab k fr ix kids rest, ps, xs, bs => ∃ v ys ks rs, xs = .string lab :: v :: ys ∧ bs = ks ++ rs ∧
      NodeC w k fr ix kids.len v ps ks (fun ps' xs' ks' => Lk w kids ps' xs' ks') ∧ Lk w rest ps ys rs
/-- A value is linked as the node. -/
def LkN (w : World) (k : Int) (fr : ByteArray) (ix : Int) (kids : F) (ps : List Nat) (v : Value) (bs : List Nat) : Prop :=
  NodeC w k fr ix kids.len v ps bs (fun ps' xs' ks' => Lk w kids ps' xs' ks')

theorem NodeC.same {w w' : World} {k : Int} {fr : ByteArray} {ix : Int} {n : Nat} {v : Value} {ps bs : List Nat} {P Q : List Nat → List Value → List Nat → Prop}
    (h : NodeC w k fr ix n v ps bs P) (hs : Same w w' bs) (hP : ∀ ps' xs' ks', (∀ b, b ∈ ks' → b ∈ bs) → P ps' xs' ks' → Q ps' xs' ks') : NodeC w' k fr ix n v ps bs Q := by
  rcases h with h | h | ⟨h1, b, s, u, ks, h2, h3, h4, rfl, h6⟩ | ⟨h1, b, r, cap, cs, xs, ks, h2, h3, h4, h5, h6, h7, rfl, h9⟩
  · exact Or.inl h
  · exact Or.inr (Or.inl h)
  · exact Or.inr (Or.inr (Or.inl ⟨h1, b, s, u, ks, h2, h3.same (hs b (by simp)), h4, rfl, hP _ _ _ (fun x hx => by simp [hx]) h6⟩))
  · exact Or.inr (Or.inr (Or.inr ⟨h1, b, r, cap, cs, xs, ks, h2, h3.same (hs b (by simp)), h4, h5, h6.same (hs r (by simp)), h7, rfl, hP _ _ _ (fun x hx => by simp [hx]) h9⟩))

theorem Lk.same {w w' : World} : ∀ (f : F) (ps : List Nat) (xs : List Value) (bs : List Nat), Lk w f ps xs bs → Same w w' bs → Lk w' f ps xs bs := by
  intro f
  induction f with
  | nil => intro ps xs bs h _; exact h
  | cons lab k fr ix kids rest ihk ihr =>
    intro ps xs bs h hs
    obtain ⟨v, ys, ks, rs, e1, rfl, hn, hr⟩ := h
    refine ⟨v, ys, ks, rs, e1, rfl, hn.same (fun b hb => hs b (List.mem_append_left _ hb)) (fun ps' xs' ks' hsub hp => ihk _ _ _ hp (fun b hb => hs b (List.mem_append_left _ (hsub b hb)))), ihr _ _ _ hr (fun b hb => hs b (List.mem_append_right _ hb))⟩

theorem LkN.same {w w' : World} {k : Int} {fr : ByteArray} {ix : Int} {kids : F} {ps : List Nat} {v : Value} {bs : List Nat} (h : LkN w k fr ix kids ps v bs) (hs : Same w w' bs) : LkN w' k fr ix kids ps v bs :=
  NodeC.same h hs (fun _ _ _ hsub hp => Lk.same _ _ _ _ hp (fun b hb => hs b (hsub b hb)))

theorem Lk.lt {w : World} : ∀ (f : F) (ps : List Nat) (xs : List Value) (bs : List Nat), Lk w f ps xs bs → ∀ b, b ∈ bs → b < w.heap.size := by
  intro f
  induction f with
  | nil => intro ps xs bs h b hb; rw [h.2] at hb; simp at hb
  | cons lab k fr ix kids rest ihk ihr =>
    intro ps xs bs h b hb
    obtain ⟨v, ys, ks, rs, e1, rfl, hn, hr⟩ := h
    rcases List.mem_append.1 hb with hb | hb
    · rcases hn with ⟨-, -, rfl⟩ | ⟨-, -, rfl⟩ | ⟨h1, b', s, u, ks', h2, h3, h4, rfl, h6⟩ | ⟨h1, b', r, cap, cs, xs, ks', h2, h3, h4, h5, h6, h7, rfl, h9⟩
      · simp at hb
      · simp at hb
      · rcases List.mem_cons.1 hb with rfl | hb
        · exact h3.lt
        · exact ihk _ _ _ h6 b hb
      · rcases List.mem_cons.1 hb with rfl | hb
        · exact h3.lt
        · rcases List.mem_cons.1 hb with rfl | hb
          · exact h6.lt
          · exact ihk _ _ _ h9 b hb
    · exact ihr _ _ _ hr b hb

theorem LkN.lt {w : World} {k : Int} {fr : ByteArray} {ix : Int} {kids : F} {ps : List Nat} {v : Value} {bs : List Nat} (h : LkN w k fr ix kids ps v bs) : ∀ b, b ∈ bs → b < w.heap.size :=
  Lk.lt (.cons ⟨#[]⟩ k fr ix kids .nil) ps [.string ⟨#[]⟩, v] bs ⟨v, [], bs, [], rfl, by simp, h, rfl, rfl⟩

/-- One branch more. -/
theorem Lk.snoc {w : World} {lab : ByteArray} {k : Int} {fr : ByteArray} {ix : Int} {kids : F} {v : Value} {ks : List Nat} : ∀ (p : F) (ps : List Nat) (xs : List Value) (bs : List Nat), Lk w p ps xs bs → LkN w k fr ix kids ps v ks →
    Lk w (p.app (.cons lab k fr ix kids .nil)) ps (xs ++ [.string lab, v]) (bs ++ ks) := by
  intro p
  induction p with
  | nil =>
    intro ps xs bs h hn
    obtain ⟨rfl, rfl⟩ := h
    exact ⟨v, [], ks, [], rfl, by simp, hn, rfl, rfl⟩
  | cons lab' k' fr' ix' kids' rest ihk ihr =>
    intro ps xs bs h hn
    obtain ⟨v', ys, ks', rs, rfl, rfl, hn', hr⟩ := h
    exact ⟨v', _, ks', rs ++ ks, rfl, by rw [List.append_assoc], hn', ihr _ _ _ hr hn⟩

theorem Lk.length {w : World} : ∀ (f : F) (ps : List Nat) (xs : List Value) (bs : List Nat), Lk w f ps xs bs → xs.length = f.len * 2 := by
  intro f
  induction f with
  | nil => intro ps xs bs h; rw [h.1]; rfl
  | cons lab k fr ix kids rest ihk ihr =>
    intro ps xs bs h
    obtain ⟨v, ys, ks, rs, rfl, rfl, -, hr⟩ := h
    have := ihr _ _ _ hr
    simp only [List.length_cons, F.len]
    omega

/-- What a value of the type linkedNode looks like. -/
theorem LkN.val {w : World} {k : Int} {fr : ByteArray} {ix : Int} {kids : F} {ps : List Nat} {v : Value} {bs : List Nat} (h : LkN w k fr ix kids ps v bs) : ∃ T u, v = .iface T u := by
  rcases h with ⟨-, h, -⟩ | ⟨-, ⟨l, -, -, -, h⟩, -⟩ | ⟨-, b, s, u, ks, h, -⟩ | ⟨-, b, r, cap, cs, xs, ks, h, -⟩ <;> exact ⟨_, _, h⟩

/-! ### The recursions around -/

/-- A slice of pointers to these blocks. -/
def Ps (w : World) (v : Value) (ps : List Nat) : Prop :=
  (ps = [] ∧ v = .slice none 0 0) ∨ ∃ b cap, ps ≠ [] ∧ v = .slice (some ⟨b, 0, none⟩) ps.length cap ∧ ps.length ≤ cap ∧ cap ≤ maxLen ∧ ∀ i l, ps[i]? = some l → w.cell? ⟨b, i, none⟩ = some (.pointer (some ⟨l, 0, none⟩))
theorem Ps.still {w w' : World} (h : Still w w') {v : Value} {ps : List Nat} (hs : Ps w v ps) : Ps w' v ps := by
  rcases hs with hs | ⟨b, cap, h1, h2, h3, h4, h5⟩
  · exact Or.inl hs
  · exact Or.inr ⟨b, cap, h1, h2, h3, h4, fun i l hl => h _ _ (h5 i l hl)⟩
theorem Ps.nil (w : World) : Ps w (.slice none 0 0) [] := Or.inl ⟨rfl, rfl⟩
theorem Ps.only {w w' : World} {c : Nat} {m : Int} (hc : Ctr w c m) (h : Only c w w') {v : Value} {ps : List Nat} (hs : Ps w v ps) : Ps w' v ps := by
  rcases hs with hs | ⟨b, cap, h1, h2, h3, h4, h5⟩
  · exact Or.inl hs
  · refine Or.inr ⟨b, cap, h1, h2, h3, h4, fun i l hl => ?_⟩
    have g0 := h5 i l hl
    have hne : b ≠ c := by
      rintro rfl
      obtain ⟨t, hh⟩ := hc
      simp only [World.cell?, hh] at g0
      cases i with
      | zero => simp at g0
      | succ x => simp at g0
    rw [Same.cell (h.block b (World.block_lt_of_cell? _ _ g0) hne)]
    exact g0
theorem Ps.val {w : World} {v : Value} {ps : List Nat} (h : Ps w v ps) : ∃ a cap, v = .slice a ps.length cap ∧ ps.length ≤ cap ∧ cap ≤ maxLen := by
  rcases h with ⟨rfl, rfl⟩ | ⟨b, cap, h1, h2, h3, h4, h5⟩
  · exact ⟨none, 0, rfl, Nat.le_refl _, Nat.zero_le _⟩
  · exact ⟨_, cap, h2, h3, h4⟩

/-- A row of the call's own that holds these pointers. -/
theorem Ps.of_owns {w : World} {base : Nat} {e : TypeId} {v : Value} {ps : List Nat} (hne : ps ≠ []) (h : w.ownsRow base e 1 v ps.length (ps.map fun l => Value.pointer (some ⟨l, 0, none⟩))) : Ps w v ps := by
  rcases h with ⟨hl, ⟨hv, h0⟩ | ⟨g, cap, cur, hv, hb, hg, h1, h2, h3, h4⟩⟩
  · exact Or.inl ⟨List.eq_nil_of_length_eq_zero h0, hv⟩
  · cases ps with
    | nil => exact absurd rfl hne
    | cons p ps =>
      refine Or.inr ⟨g, cap, by simp, hv, h1, h2, fun i l hl => ?_⟩
      have hh : ((p :: ps).map fun l => Value.pointer (some ⟨l, 0, none⟩))[i]? = some (.pointer (some ⟨l, 0, none⟩)) := by
        rw [List.getElem?_map, hl]; rfl
      rw [← h4, List.getElem?_take] at hh
      rw [cell_of_heap hg]
      split at hh
      · simpa using hh
      · cases hh

/-- As Ps, and it is a row of such pointers' own. -/
def Pt (w : World) (v : Value) (ps : List Nat) : Prop :=
  (ps = [] ∧ v = .slice none 0 0) ∨ ∃ (b cap : Nat) (cs : Array Value), ps ≠ [] ∧ v = .slice (some ⟨b, 0, none⟩) ps.length cap ∧ ps.length ≤ cap ∧ cap ≤ maxLen ∧ w.heap[b]? = some (Obj.cells cs ( /- t -/ 56) (0, 0)) ∧ ∀ i l : Nat, ps[i]? = some l → cs[i]? = some (Value.pointer (some ⟨l, 0, none⟩))
theorem Pt.nil (w : World) : Pt w (.slice none 0 0) [] := Or.inl ⟨rfl, rfl⟩
theorem Pt.ps {w : World} {v : Value} {ps : List Nat} (h : Pt w v ps) : Ps w v ps := by
  rcases h with h | ⟨b, cap, cs, h1, h2, h3, h4, h5, h6⟩
  · exact Or.inl h
  · exact Or.inr ⟨b, cap, h1, h2, h3, h4, fun i l hl => by rw [cell_of_heap h5]; exact h6 i l hl⟩
theorem Pt.keep {w w' : World} {v : Value} {ps : List Nat} (h : Pt w v ps) (hk : ∀ (b : Nat) (cs : Array Value), w.heap[b]? = some (Obj.cells cs ( /- t -/ 56) (0, 0)) → w'.heap[b]? = some (Obj.cells cs ( /- t -/ 56) (0, 0))) : Pt w' v ps := by
  rcases h with h | ⟨b, cap, cs, h1, h2, h3, h4, h5, h6⟩
  · exact Or.inl h
  · exact Or.inr ⟨b, cap, cs, h1, h2, h3, h4, hk b cs h5, h6⟩
theorem Pt.below {w w' : World} {v : Value} {ps : List Nat} (h : Pt w v ps) (hb : Below w.heap.size w w') : Pt w' v ps :=
  h.keep fun b cs hc => by rw [hb.block b (Array.getElem?_eq_some_iff.1 hc).1]; exact hc
theorem Pt.of_owns {w : World} {base : Nat} {v : Value} {ps : List Nat} (hne : ps ≠ []) (h : w.ownsRow base ( /- t -/ 56) 1 v ps.length (ps.map fun l => Value.pointer (some ⟨l, 0, none⟩))) : Pt w v ps := by
  rcases h with ⟨hl, ⟨hv, h0⟩ | ⟨g, cap, cur, hv, hb, hg, h1, h2, h3, h4⟩⟩
  · exact Or.inl ⟨List.eq_nil_of_length_eq_zero h0, hv⟩
  · refine Or.inr ⟨g, cap, cur, hne, hv, h1, h2, hg, fun i l hl => ?_⟩
    have hh : (ps.map fun l => Value.pointer (some ⟨l, 0, none⟩))[i]? = some (.pointer (some ⟨l, 0, none⟩)) := by
      rw [List.getElem?_map, hl]; rfl
    rw [← h4, List.getElem?_take] at hh
    split at hh
    · simpa using hh
    · cases hh

end Go.Proofs.Ytpjbffggeegdaaa.Lo

/- linkNode of the program: what it owes; the ways without a recursion. -/
namespace Go.Proofs.Ytpjbffggeegdaaa.Lo
open Go.RowKit

/-- What linkNode owes: the node is valid and within the limit, or not; where it is, its nodes are counted and the value is linked. -/
def LiPost (c : Nat) (w : World) (m : Nat) (k : Int) (fr : ByteArray) (ix : Int) (kids : F) (ps : List Nat) (v : Bool) (e : Ending) (w' : World) : Prop :=
  ∃ (m' : Nat) (u : Value) (bs : List Nat), e = .returned (.tuple #[u, .bool (v && decide (m + (kids.sz + 1) ≤ 400))]) ∧ (u = .nilIface ∨ ∃ T x, u = .iface T x) ∧ Only c w w' ∧ Ctr w' c m' ∧
    ((v && decide (m + (kids.sz + 1) ≤ 400)) = true → m' = m + (kids.sz + 1) ∧ LkN w' k fr ix kids ps u bs ∧ ∀ b, b ∈ bs → w.heap.size ≤ b)

def LiAt (n : Nat) : Prop := ∀ (w : World) (k ix depth ung : Int) (fr : ByteArray) (sv lv : Value) (kids : F) (ps : List Nat) (c m : Nat), kids.sz < n → Sl w sv kids → Ctr w c m → m ≤ 400 → Ps w lv ps → (∀ l, l ∈ ps → l < w.heap.size) →
  1 ≤ depth → depth ≤ 41 → ps.length + 1 ≤ depth → 0 ≤ ung → ung + 1 ≤ depth →
  Calls Try.prog 23 #[.agg #[.int .i64 k, .string fr, .int .i64 ix, sv], .agg #[.int .i64 depth, lv, .int .i64 ung], .pointer (some ⟨c, 0, none⟩)] w
    (LiPost c w m k fr ix kids ps (vldN k fr ix kids ps.length ung (41 - depth)))

theorem alloc_last (w : World) (cs : Array Value) (t : TypeId) : (w.alloc (.cells cs t)).heap[w.heap.size]? = some (.cells cs t (0, 0)) := by
  show (w.heap.push _)[w.heap.size]? = _
  simp

/-- The world in which the fields are looked at, and each one behind it. -/
theorem li_start {w w1 : World} {c m : Nat} {cs ds : Array Value} {t u : TypeId} (hc : Ctr w c m)
    (hb : Below (w.heap.size + 2) (((w.setCell ⟨c, 0, none⟩ (.int .i64 ((m : Int) + 1))).alloc (.cells cs t)).alloc (.cells ds u)) w1) :
    Only c w w1 ∧ Ctr w1 c ((m + 1 : Nat) : Int) ∧ w.heap.size + 1 < w1.heap.size ∧ Blk w1 w.heap.size cs ∧ Blk w1 (w.heap.size + 1) ds := by
  have hlt := hc.lt
  have o1 : Only c w (w.setCell ⟨c, 0, none⟩ (.int .i64 ((m : Int) + 1))) := (Only.refl c w).setCell (Or.inl rfl) _
  have k1 : Ctr (w.setCell ⟨c, 0, none⟩ (.int .i64 ((m : Int) + 1))) c ((m + 1 : Nat) : Int) := by
    have := hc.set ((m : Int) + 1)
    rwa [show ((m + 1 : Nat) : Int) = (m : Int) + 1 by omega]
  have s1 : (w.setCell ⟨c, 0, none⟩ (.int .i64 ((m : Int) + 1))).heap.size = w.heap.size := World.size_setCell ..
  generalize (w.setCell ⟨c, 0, none⟩ (.int .i64 ((m : Int) + 1))) = w0 at *
  have a1 := alloc_last w0 cs t
  have a2 := alloc_last (w0.alloc (.cells cs t)) ds u
  have z1 : (w0.alloc (.cells cs t)).heap.size = w0.heap.size + 1 := by simp
  have z2 : ((w0.alloc (.cells cs t)).alloc (.cells ds u)).heap.size = w0.heap.size + 2 := by simp
  rw [z1] at a2
  have e1 : w1.heap[w.heap.size]? = some (.cells cs t (0, 0)) := by
    rw [hb.block _ (by omega), Below.heap_alloc _ _ _ (by omega), ← s1]; exact a1
  have e2 : w1.heap[w.heap.size + 1]? = some (.cells ds u (0, 0)) := by
    rw [hb.block _ (by omega), ← s1]; exact a2
  have hs := hb.size
  exact ⟨((o1.alloc _).alloc _).trans ⟨hb.os, hb.tape, hb.output, hb.size, fun i hi _ => hb.block i (by omega)⟩, ((k1.alloc _).alloc _).same (hb.block _ (by omega)), by omega, ⟨t, e1⟩, ⟨u, e2⟩⟩

theorem li_no {c : Nat} {w w' : World} {m m' : Nat} {k : Int} {fr : ByteArray} {ix : Int} {kids : F} {ps : List Nat} {v : Bool} (hv : (v && decide (m + (kids.sz + 1) ≤ 400)) = false) (ho : Only c w w') (hc : Ctr w' c m') :
    LiPost c w m k fr ix kids ps v (.returned (.tuple #[.nilIface, .bool false])) w' :=
  ⟨m', .nilIface, [], by rw [hv], Or.inl rfl, ho, hc, by rw [hv]; intro h; cases h⟩

set_option maxHeartbeats 400000 in
set_option maxRecDepth 100000 in
theorem li_full (w : World) (k ix depth ung : Int) (fr : ByteArray) (sv lv : Value) (kids : F) (ps : List Nat) (c m : Nat) (v : Bool) (hp : Ps w lv ps) (hc : Ctr w c m) (hm : 400 ≤ m) (hm2 : m ≤ 400) :
    Calls Try.prog 23 #[.agg #[.int .i64 k, .string fr, .int .i64 ix, sv], .agg #[.int .i64 depth, lv, .int .i64 ung], .pointer (some ⟨c, 0, none⟩)] w (LiPost c w m k fr ix kids ps v) := by
  obtain ⟨a, cap, rfl, -, -⟩ := hp.val
  have h0 := hc.cell
  have h1 : w.frozen? ⟨c, 0, none⟩ = false := hc.frozen
  have h2 := hc.lt
  go_enter Try.func23, Try.ntmps23
  go_wp2_with fail
  obtain ⟨p1, p2, -⟩ := li_start (cs := #[.int .i64 k, .string fr, .int .i64 ix, sv]) (t := ( /- t -/ 25)) (ds := #[.int .i64 depth, .slice a ps.length cap, .int .i64 ung]) (u := ( /- t -/ 53)) hc (Below.refl _ _)
  go_ret2
  exact li_no (by rw [decide_eq_false (by omega), Bool.and_false]) p1 p2

set_option maxHeartbeats 400000 in
set_option maxRecDepth 100000 in
theorem li_deep (w : World) (k ix depth ung : Int) (fr : ByteArray) (sv lv : Value) (kids : F) (ps : List Nat) (c m : Nat) (hp : Ps w lv ps) (hc : Ctr w c m) (hm : m ≤ 399) (hd : 40 < depth) :
    Calls Try.prog 23 #[.agg #[.int .i64 k, .string fr, .int .i64 ix, sv], .agg #[.int .i64 depth, lv, .int .i64 ung], .pointer (some ⟨c, 0, none⟩)] w
      (LiPost c w m k fr ix kids ps (vldN k fr ix kids ps.length ung (41 - depth))) := by
  obtain ⟨a, cap, rfl, -, -⟩ := hp.val
  have h0 := hc.cell
  have h1 : w.frozen? ⟨c, 0, none⟩ = false := hc.frozen
  have h2 := hc.lt
  go_enter Try.func23, Try.ntmps23
  go_wp2_with fail
  obtain ⟨p1, p2, -⟩ := li_start (cs := #[.int .i64 k, .string fr, .int .i64 ix, sv]) (t := ( /- t -/ 25)) (ds := #[.int .i64 depth, .slice a ps.length cap, .int .i64 ung]) (u := ( /- t -/ 53)) hc (Below.refl _ _)
  go_ret2
  have hv : vldN k fr ix kids ps.length ung (41 - depth) = false := by
    unfold vldN nodeB
    rw [decide_eq_false (by omega)]
    rfl
  exact li_no (by rw [hv]; rfl) p1 p2

set_option maxHeartbeats 400000 in
set_option maxRecDepth 100000 in
theorem li_bad (w : World) (k ix depth ung : Int) (fr : ByteArray) (sv lv : Value) (kids : F) (ps : List Nat) (c m : Nat) (hp : Ps w lv ps) (hs : Sl w sv kids) (hc : Ctr w c m) (hm : m ≤ 399) (hd : depth ≤ 40) (hsh : shapeB k fr ix kids = false) :
    Calls Try.prog 23 #[.agg #[.int .i64 k, .string fr, .int .i64 ix, sv], .agg #[.int .i64 depth, lv, .int .i64 ung], .pointer (some ⟨c, 0, none⟩)] w
      (LiPost c w m k fr ix kids ps (vldN k fr ix kids ps.length ung (41 - depth))) := by
  obtain ⟨a, cap, rfl, -, -⟩ := hp.val
  have h0 := hc.cell
  have h1 : w.frozen? ⟨c, 0, none⟩ = false := hc.frozen
  have h2 := hc.lt
  have HS := hide hs
  have HSH := hide hsh
  clear hs hsh hp
  go_enter Try.func23, Try.ntmps23
  go_wp2_with fail
  have q0 := li_start (cs := #[.int .i64 k, .string fr, .int .i64 ix, sv]) (t := ( /- t -/ 25)) (ds := #[.int .i64 depth, .slice a ps.length cap, .int .i64 ung]) (u := ( /- t -/ 53)) hc (Below.refl _ _)
  refine (implShape _ k ix fr sv kids (HS.out.only hc q0.1)).mono ?_
  clear q0
  rintro e w1 ⟨rfl, hb⟩
  rw [HSH.out]
  obtain ⟨p1, p2, -⟩ := li_start hc (hb.mono (by simp))
  clear hb
  go_wp2_with fail
  go_ret2
  have hv : vldN k fr ix kids ps.length ung (41 - depth) = false := by
    unfold vldN
    rw [nodeB_shape, HSH.out, Bool.and_false, Bool.false_and]
  exact li_no (by rw [hv]; rfl) p1 p2

set_option maxHeartbeats 400000 in
set_option maxRecDepth 100000 in
theorem li_end (w : World) (ix depth ung : Int) (fr : ByteArray) (sv lv : Value) (kids : F) (ps : List Nat) (c m : Nat) (hp : Ps w lv ps) (hs : Sl w sv kids) (hc : Ctr w c m) (hm : m ≤ 399) (hd0 : 1 ≤ depth) (hd : depth ≤ 40) (hsh : shapeB 1 fr ix kids = true) :
    Calls Try.prog 23 #[.agg #[.int .i64 1, .string fr, .int .i64 ix, sv], .agg #[.int .i64 depth, lv, .int .i64 ung], .pointer (some ⟨c, 0, none⟩)] w
      (LiPost c w m 1 fr ix kids ps (vldN 1 fr ix kids ps.length ung (41 - depth))) := by
  obtain ⟨a, cap, rfl, -, -⟩ := hp.val
  have h0 := hc.cell
  have h1 : w.frozen? ⟨c, 0, none⟩ = false := hc.frozen
  have h2 := hc.lt
  have HS := hide hs
  have HSH := hide hsh
  clear hs hsh hp
  go_enter Try.func23, Try.ntmps23
  go_wp2_with fail
  have q0 := li_start (cs := #[.int .i64 1, .string fr, .int .i64 ix, sv]) (t := ( /- t -/ 25)) (ds := #[.int .i64 depth, .slice a ps.length cap, .int .i64 ung]) (u := ( /- t -/ 53)) hc (Below.refl _ _)
  refine (implShape _ 1 ix fr sv kids (HS.out.only hc q0.1)).mono ?_
  clear q0
  rintro e w1 ⟨rfl, hb⟩
  rw [HSH.out]
  obtain ⟨p1, p2, hz, b1, -⟩ := li_start hc (hb.mono (by simp))
  have x0 := b1.cell 0
  simp only [List.getElem?_toArray, List.getElem?_cons_zero] at x0
  have hz1 : w.heap.size < w1.heap.size := by omega
  clear hb b1
  go_wp2_with fail
  go_ret2
  have hv : vldN 1 fr ix kids ps.length ung (41 - depth) = true := by
    unfold vldN
    rw [nodeB_shape, HSH.out, decide_eq_true (by omega)]
    rfl
  have h1 : kids.sz = 0 := by rw [(shape_end HSH.out).2.2]; rfl
  have h3 : (vldN 1 fr ix kids ps.length ung (41 - depth) && decide (m + (kids.sz + 1) ≤ 400)) = true := by rw [hv, decide_eq_true (by omega)]; rfl
  exact ⟨m + 1, _, [], by rw [h3]; rfl, Or.inr ⟨_, _, rfl⟩, p1, p2, fun _ => ⟨by rw [h1], Or.inl ⟨rfl, rfl, rfl⟩, fun b hb => by simp at hb⟩⟩
end Go.Proofs.Ytpjbffggeegdaaa.Lo

/- The scope of linkNode: Clip, inside, below. -/
namespace Go.Proofs.Ytpjbffggeegdaaa.Lo
open Go.RowKit

theorem clip_calls (w : World) (a : Option Addr) (n cap : Nat) (hn : n ≤ cap) :
    Calls Try.prog 47 #[.slice a n cap] w fun e w' => e = .returned (.slice a n n) ∧ w' = w := by
  go_enter Try.func47, Try.ntmps47
  go_wp2_with fail
  go_ret
  exact ⟨rfl, rfl⟩

theorem Try.info56 : (Try.prog.info? ( /- t -/ 56)).map (fun i => (i.zero, i.size, i.bytes)) = some (some (.pointer none), 1, 8) := by kernel_rfl

/-- What inside gives. -/
def InsPost (w : World) (depth ung : Int) (ps : List Nat) (n : Nat) (e : Ending) (w' : World) : Prop :=
  ∃ v' cap, e = .returned (.agg #[.int .i64 depth, .slice (some v') n cap, .int .i64 ung]) ∧ Pt w' (.slice (some v') n cap) ps ∧ Below w.heap.size w w'

theorem grown_below {w w' : World} (h : w.grownBy w' none) : Below w.heap.size w w' := ⟨h.os, h.tape, h.output, h.size, fun k hk => h.block k hk (by simp)⟩

set_option maxHeartbeats 3200000 in
set_option maxRecDepth 100000 in
theorem ins_calls (w : World) (depth ung : Int) (lv : Value) (ps : List Nat) (l : Nat) (hp : Ps w lv ps) (hd0 : 0 ≤ depth) (hd : depth ≤ 41) (hu0 : 0 ≤ ung) (hu : ung ≤ 41) (hlen : ps.length ≤ 41) :
    Calls Try.prog 36 #[.agg #[.int .i64 depth, lv, .int .i64 ung], .pointer (some ⟨l, 0, none⟩)] w (InsPost w (depth + 1) (ung + 1) (ps ++ [l]) (ps.length + 1)) := by
  obtain ⟨i0, hi, hz0, hz1, hz2⟩ := info_parts Try.info56
  obtain ⟨a, cap, rfl, hcap, hmax⟩ := hp.val
  have hnone : a = none → ps.length = 0 ∧ ps.length = 0 := by
    rintro rfl
    rcases hp with ⟨rfl, -⟩ | ⟨b, c, -, e, -⟩
    · exact ⟨rfl, rfl⟩
    · injection e with e; cases e
  have holds : ∀ W : World, Below w.heap.size w W → ∀ b, a = some b → ∀ j u, (ps.map fun l => Value.pointer (some ⟨l, 0, none⟩))[j]? = some u → W.cell? (b.add j) = some u := by
    rintro W hW b rfl j u hu
    rcases hp with ⟨-, e⟩ | ⟨b', c, -, e, -, -, h5⟩
    · injection e with e; cases e
    · injection e with e
      injection e with e
      subst e
      rw [List.getElem?_map] at hu
      cases hl : ps[j]? with
      | none => rw [hl] at hu; cases hu
      | some x =>
        rw [hl] at hu
        have hu2 : Value.pointer (some ⟨x, 0, none⟩) = u := by simpa using hu
        subst hu2
        have := (Still.of_below hW) _ _ (h5 j x hl)
        unfold Addr.add
        split
        · rename_i hj0; subst hj0; simpa using this
        · simpa using this
  have HN := hide hnone
  have HO := hide holds
  clear hp hnone holds
  go_enter Try.func36, Try.ntmps36
  go_wp2_with fail
  have hB0 : Below w.heap.size w ((w.alloc (.cells #[.int .i64 depth, .slice a ps.length cap, .int .i64 ung] ( /- t -/ 53))).alloc (.cells #[.int .i64 0, .slice none 0 0, .int .i64 0] ( /- t -/ 53))) := (alloc_below _ _).alloc (by simp) _
  have hS0 : Blk ((w.alloc (.cells #[.int .i64 depth, .slice a ps.length cap, .int .i64 ung] ( /- t -/ 53))).alloc (.cells #[.int .i64 0, .slice none 0 0, .int .i64 0] ( /- t -/ 53))) w.heap.size #[.int .i64 depth, .slice a ps.length cap, .int .i64 ung] :=
    (Blk.now _ _ _).below (alloc_below _ _)
  have hR0 : Blk ((w.alloc (.cells #[.int .i64 depth, .slice a ps.length cap, .int .i64 ung] ( /- t -/ 53))).alloc (.cells #[.int .i64 0, .slice none 0 0, .int .i64 0] ( /- t -/ 53))) (w.heap.size + 1) #[.int .i64 0, .slice none 0 0, .int .i64 0] := by
    have := Blk.now (w.alloc (.cells #[.int .i64 depth, .slice a ps.length cap, .int .i64 ung] ( /- t -/ 53))) #[.int .i64 0, .slice none 0 0, .int .i64 0] ( /- t -/ 53)
    simpa using this
  have hZ0 : ((w.alloc (.cells #[.int .i64 depth, .slice a ps.length cap, .int .i64 ung] ( /- t -/ 53))).alloc (.cells #[.int .i64 0, .slice none 0 0, .int .i64 0] ( /- t -/ 53))).heap.size = w.heap.size + 2 := by simp
  generalize ((w.alloc (.cells #[.int .i64 depth, .slice a ps.length cap, .int .i64 ung] ( /- t -/ 53))).alloc (.cells #[.int .i64 0, .slice none 0 0, .int .i64 0] ( /- t -/ 53))) = W at *
  have c0 : W.cell? ⟨w.heap.size, 0, none⟩ = some (.int .i64 depth) := hS0.cell 0
  have c1 : W.cell? ⟨w.heap.size, 1, none⟩ = some (.slice a ps.length cap) := hS0.cell 1
  have c2 : W.cell? ⟨w.heap.size, 2, none⟩ = some (.int .i64 ung) := hS0.cell 2
  have hlt : w.heap.size < W.heap.size := by omega
  have hlt1 : w.heap.size + 1 < W.heap.size := by omega
  have HB := hide hB0
  have HR := hide hR0
  clear hB0 hR0 hS0 hZ0
  go_region_held3 (fun w' => w'.cell? ⟨w.heap.size, 0, none⟩ = some (.int .i64 depth) ∧ w'.cell? ⟨w.heap.size, 1, none⟩ = some (.slice a ps.length cap) ∧ w'.cell? ⟨w.heap.size, 2, none⟩ = some (.int .i64 ung))
    (first
      | go_keep
      | (go_split_ands
         refine ⟨?_, ?_, ?_⟩
         · (rw [hgrow.cell_far _ (by simp; omega) (by simp)]; assumption)
         · (rw [hgrow.cell_far _ (by simp; omega) (by simp)]; assumption)
         · (rw [hgrow.cell_far _ (by simp; omega) (by simp)]; assumption)))
    ((first
      | (go_at_call 47; refine (clip_calls _ a ps.length cap hcap).mono ?_; rintro e w' ⟨rfl, rfl⟩)
      | (refine step_append_grows (by rfl) _ _ _ (by rfl) ( /- t -/ 56) i0 _ 1 8 Try.underlying51 hi hz0 hz1 hz2 rfl (by omega) a ps.length ps.length (ps.map fun l => Value.pointer (some ⟨l, 0, none⟩)) (by rfl) HN.out (by simp) (HO.out _ (HB.out.alloc (by omega) _).drew)
          ⟨W.heap.size, 0, none⟩ 1 1 [.pointer (some ⟨l, 0, none⟩)] (by rfl) (by rfl) (World.news_of_block (cs := #[.pointer (some ⟨l, 0, none⟩)]) (t := ( /- t -/ 56)) (fr := (0, 0)) (heap_alloc_new W _)) (by simp [Value.oneCell']) (by omega) (by unfold maxLen; omega) (by omega) ?_;
         intro v' w1 hown hgrow; obtain ⟨g, gc, rfl, hg1, hg2⟩ := hown.form (by omega);
         have hR1 := Blk.same HR.out ((hgrow.block (w.heap.size + 1) (by simp; omega) (by simp)).trans (Below.heap_alloc W _ _ hlt1));
         have r0 : w1.cell? ⟨w.heap.size + 1, 0, none⟩ = some (.int .i64 0) := hR1.cell 0;
         have r1 : w1.cell? ⟨w.heap.size + 1, 1, none⟩ = some (.slice none 0 0) := hR1.cell 1;
         have r2 : w1.cell? ⟨w.heap.size + 1, 2, none⟩ = some (.int .i64 0) := hR1.cell 2;
         have f0 : ∀ o, w1.frozen? ⟨w.heap.size + 1, o, none⟩ = false := hR1.frozen;
         have hl1 : w.heap.size + 1 < w1.heap.size := hR1.lt)))
  all_goals
    go_wp2_with fail
    have e1 : IntKind.i64.wrap (depth + 1) = depth + 1 := IntWalk.i64_in _ (by omega)
    have e2 : IntKind.i64.wrap (ung + 1) = ung + 1 := IntWalk.i64_in _ (by omega)
    have hlen2 : (ps ++ [l]).length = ps.length + 1 := by simp
    have hb1 : Below w.heap.size w w1 := (HB.out.alloc (by omega) (.cells #[.pointer (some ⟨l, 0, none⟩)] ( /- t -/ 56))).drew.trans ((grown_below hgrow).mono (by simp; omega))
    have hP : Pt w1 (.slice (some ⟨g, 0, none⟩) (ps ++ [l]).length gc) (ps ++ [l]) := by
      refine Pt.of_owns (by simp) (base := (W.alloc (.cells #[.pointer (some ⟨l, 0, none⟩)] ( /- t -/ 56))).drew.heap.size) ?_
      rw [hlen2, List.map_append]
      exact hown
    rw [e1, e2]
    have hR2 : Blk (((w1.setCell ⟨w.heap.size + 1, 0, none⟩ (.int .i64 (depth + 1))).setCell ⟨w.heap.size + 1, 1, none⟩ (.slice (some ⟨g, 0, none⟩) (ps.length + 1) gc)).setCell ⟨w.heap.size + 1, 2, none⟩ (.int .i64 (ung + 1))) (w.heap.size + 1)
        #[.int .i64 (depth + 1), .slice (some ⟨g, 0, none⟩) (ps.length + 1) gc, .int .i64 (ung + 1)] := ((hR1.set 0 _).set 1 _).set 2 _
    have hb2 : Below w.heap.size w (((w1.setCell ⟨w.heap.size + 1, 0, none⟩ (.int .i64 (depth + 1))).setCell ⟨w.heap.size + 1, 1, none⟩ (.slice (some ⟨g, 0, none⟩) (ps.length + 1) gc)).setCell ⟨w.heap.size + 1, 2, none⟩ (.int .i64 (ung + 1))) :=
      ((hb1.setCell (by simp) _).setCell (by simp) _).setCell (by simp) _
    have hP2 : Pt (((w1.setCell ⟨w.heap.size + 1, 0, none⟩ (.int .i64 (depth + 1))).setCell ⟨w.heap.size + 1, 1, none⟩ (.slice (some ⟨g, 0, none⟩) (ps.length + 1) gc)).setCell ⟨w.heap.size + 1, 2, none⟩ (.int .i64 (ung + 1))) (.slice (some ⟨g, 0, none⟩) (ps ++ [l]).length gc) (ps ++ [l]) := by
      rcases hP with ⟨h, -⟩ | ⟨b, c, cs, h1, h2, h3, h4, h5, h6⟩
      · simp at h
      · have hbg : b = g := by
          injection h2 with h2
          injection h2 with h2
          injection h2 with h2
          exact h2.symm
        have hne : b ≠ w.heap.size + 1 := by simp at hg1; omega
        refine Or.inr ⟨b, c, cs, h1, h2, h3, h4, ?_, h6⟩
        rw [Below.heap_setCell _ _ _ _ hne, Below.heap_setCell _ _ _ _ hne, Below.heap_setCell _ _ _ _ hne]
        exact h5
    generalize (((w1.setCell ⟨w.heap.size + 1, 0, none⟩ (.int .i64 (depth + 1))).setCell ⟨w.heap.size + 1, 1, none⟩ (.slice (some ⟨g, 0, none⟩) (ps.length + 1) gc)).setCell ⟨w.heap.size + 1, 2, none⟩ (.int .i64 (ung + 1))) = w2 at *
    have q0 : w2.cell? ⟨w.heap.size + 1, 0, none⟩ = some (.int .i64 (depth + 1)) := hR2.cell 0
    have q1 : w2.cell? ⟨w.heap.size + 1, 1, none⟩ = some (.slice (some ⟨g, 0, none⟩) (ps.length + 1) gc) := hR2.cell 1
    have q2 : w2.cell? ⟨w.heap.size + 1, 2, none⟩ = some (.int .i64 (ung + 1)) := hR2.cell 2
    rw [hlen2] at hP2
    refine bodyPost_ret (v := .agg #[.int .i64 (depth + 1), .slice (some ⟨g, 0, none⟩) (ps.length + 1) gc, .int .i64 (ung + 1)]) (by simp [results, Try.results36, go_sem, q0, q1, q2]) rfl ?_
    exact ⟨_, _, rfl, hP2, hb2⟩

set_option maxHeartbeats 400000 in
set_option maxRecDepth 100000 in
theorem below_calls (w : World) (depth ung : Int) (lv : Value) (ps : List Nat) (hp : Ps w lv ps) (hd0 : 0 ≤ depth) (hd : depth ≤ 41) :
    Calls Try.prog 37 #[.agg #[.int .i64 depth, lv, .int .i64 ung]] w fun e w' => e = .returned (.agg #[.int .i64 (depth + 1), lv, .int .i64 0]) ∧ Below w.heap.size w w' := by
  obtain ⟨a, cap, rfl, -, -⟩ := hp.val
  clear hp
  go_enter Try.func37, Try.ntmps37
  go_wp2_with fail
  refine bodyPost_ret (v := .agg #[.int .i64 (depth + 1), .slice a ps.length cap, .int .i64 0]) (by simp [results, Try.results37, go_sem]) rfl ?_
  refine ⟨rfl, ?_⟩
  first
    | exact (alloc_below _ _).alloc (by simp) _
    | exact ((alloc_below _ _).alloc (by simp) _).drew

end Go.Proofs.Ytpjbffggeegdaaa.Lo

/- linkNode of the program: variables and recursions. -/
namespace Go.Proofs.Ytpjbffggeegdaaa.Lo
open Go.RowKit

theorem var_valid {fr : ByteArray} {ix b u d : Int} {kids : F} (hd : 1 ≤ d) (hsh : shapeB 5 fr ix kids = true) : vldN 5 fr ix kids b u d = (decide (u ≤ ix) && decide (ix < b)) := by
  unfold vldN
  rw [nodeB_shape, hsh, decide_eq_true hd]
  rfl

set_option maxHeartbeats 400000 in
set_option maxRecDepth 100000 in
theorem li_var_bad (w : World) (ix depth ung : Int) (fr : ByteArray) (sv lv : Value) (kids : F) (ps : List Nat) (c m : Nat) (hp : Ps w lv ps) (hs : Sl w sv kids) (hc : Ctr w c m) (hm : m ≤ 399) (hd : depth ≤ 40) (hsh : shapeB 5 fr ix kids = true)
    (hix : ix < ung ∨ (ung ≤ ix ∧ ps.length ≤ ix)) :
    Calls Try.prog 23 #[.agg #[.int .i64 5, .string fr, .int .i64 ix, sv], .agg #[.int .i64 depth, lv, .int .i64 ung], .pointer (some ⟨c, 0, none⟩)] w
      (LiPost c w m 5 fr ix kids ps (vldN 5 fr ix kids ps.length ung (41 - depth))) := by
  have hv := var_valid (b := ps.length) (u := ung) (d := 41 - depth) (by omega) hsh
  have hvf : vldN 5 fr ix kids ps.length ung (41 - depth) = false := by
    rw [hv]
    rcases hix with h | ⟨h, h2⟩
    · rw [decide_eq_false (by omega)]; rfl
    · rw [decide_eq_false (show ¬ ix < (ps.length : Int) by omega), Bool.and_false]
  rw [hvf]
  obtain ⟨a, cap, rfl, -, -⟩ := hp.val
  have h0 := hc.cell
  have h1 : w.frozen? ⟨c, 0, none⟩ = false := hc.frozen
  have h2 := hc.lt
  have HS := hide hs
  have HSH := hide hsh
  clear hs hsh hp hv hvf
  go_enter Try.func23, Try.ntmps23
  go_wp2_with fail
  have q0 := li_start (cs := #[.int .i64 5, .string fr, .int .i64 ix, sv]) (t := ( /- t -/ 25)) (ds := #[.int .i64 depth, .slice a ps.length cap, .int .i64 ung]) (u := ( /- t -/ 53)) hc (Below.refl _ _)
  refine (implShape _ 5 ix fr sv kids (HS.out.only hc q0.1)).mono ?_
  clear q0
  rintro e w1 ⟨rfl, hb⟩
  rw [HSH.out]
  obtain ⟨p1, p2, hz, b1, b2⟩ := li_start hc (hb.mono (by simp))
  have x0 : w1.cell? ⟨w.heap.size, 0, none⟩ = some (.int .i64 5) := b1.cell 0
  have x2 : w1.cell? ⟨w.heap.size, 2, none⟩ = some (.int .i64 ix) := b1.cell 2
  have y1 : w1.cell? ⟨w.heap.size + 1, 1, none⟩ = some (.slice a ps.length cap) := b2.cell 1
  have y2 : w1.cell? ⟨w.heap.size + 1, 2, none⟩ = some (.int .i64 ung) := b2.cell 2
  have hz1 : w.heap.size < w1.heap.size := by omega
  clear hb b1 b2
  rcases hix with hix | ⟨hix, hix2⟩
  · go_wp2_with fail
    go_ret2
    exact li_no rfl p1 p2
  · go_wp2_with fail
    go_ret2
    exact li_no rfl p1 p2

set_option maxHeartbeats 400000 in
set_option maxRecDepth 100000 in
theorem li_var_ok (w : World) (depth ung : Int) (i j : Nat) (fr : ByteArray) (sv lv : Value) (kids : F) (ps : List Nat) (c m : Nat) (hp : Ps w lv ps) (hs : Sl w sv kids) (hc : Ctr w c m) (hm : m ≤ 399) (hd : depth ≤ 40) (hlen : ps.length + 1 ≤ depth) (hsh : shapeB 5 fr i kids = true)
    (hix : ung ≤ i) (hj : ps.length = j + 1 + i) :
    Calls Try.prog 23 #[.agg #[.int .i64 5, .string fr, .int .i64 i, sv], .agg #[.int .i64 depth, lv, .int .i64 ung], .pointer (some ⟨c, 0, none⟩)] w
      (LiPost c w m 5 fr i kids ps (vldN 5 fr i kids ps.length ung (41 - depth))) := by
  have hv : vldN 5 fr i kids ps.length ung (41 - depth) = true := by
    rw [var_valid (by omega) hsh, decide_eq_true hix, decide_eq_true (by omega)]
    rfl
  rw [hv]
  have hk : kids = .nil := (shape_var hsh).2
  rcases hp with ⟨rfl, -⟩ | ⟨b, cap, hne, rfl, hcap, hmax, hcell⟩
  · exfalso
    have : (0 : Nat) = j + 1 + i := hj
    omega
  obtain ⟨l, hl⟩ : ∃ l, ps[j]? = some l := ⟨ps[j]'(by omega), List.getElem?_eq_getElem (by omega)⟩
  have hcl := hcell j l hl
  rw [hj]
  have h0 := hc.cell
  have h1 : w.frozen? ⟨c, 0, none⟩ = false := hc.frozen
  have h2 := hc.lt
  have HS := hide hs
  have HSH := hide hsh
  have HC := hide hcl
  have HL := hide hl
  have HJ := hide hj
  have HV := hide hv
  have hj40 : j + 1 + i ≤ 40 := by omega
  have hji : (j : Int) + 1 + i - 1 - i = j := by omega
  clear hs hsh hv hcl hl hj hcell hne
  go_enter Try.func23, Try.ntmps23
  go_wp2_with fail
  have q0 := li_start (cs := #[.int .i64 5, .string fr, .int .i64 i, sv]) (t := ( /- t -/ 25)) (ds := #[.int .i64 depth, .slice (some ⟨b, 0, none⟩) (j + 1 + i) cap, .int .i64 ung]) (u := ( /- t -/ 53)) hc (Below.refl _ _)
  refine (implShape _ 5 i fr sv kids (HS.out.only hc q0.1)).mono ?_
  clear q0
  rintro e w1 ⟨rfl, hb⟩
  rw [HSH.out]
  obtain ⟨p1, p2, hz, b1, b2⟩ := li_start hc (hb.mono (by simp))
  have x0 : w1.cell? ⟨w.heap.size, 0, none⟩ = some (.int .i64 5) := b1.cell 0
  have x2 : w1.cell? ⟨w.heap.size, 2, none⟩ = some (.int .i64 i) := b1.cell 2
  have y1 : w1.cell? ⟨w.heap.size + 1, 1, none⟩ = some (.slice (some ⟨b, 0, none⟩) (j + 1 + i) cap) := b2.cell 1
  have y2 : w1.cell? ⟨w.heap.size + 1, 2, none⟩ = some (.int .i64 ung) := b2.cell 2
  have hz1 : w.heap.size < w1.heap.size := by omega
  have z0 : w1.cell? ⟨b, j, none⟩ = some (.pointer (some ⟨l, 0, none⟩)) := by
    have hne : b ≠ c := by
      rintro rfl
      have g0 := HC.out
      obtain ⟨t, hh⟩ := hc
      simp only [World.cell?, hh] at g0
      cases j with
      | zero => simp at g0
      | succ x => simp at g0
    rw [Same.cell (p1.block b (World.block_lt_of_cell? _ _ HC.out) hne)]
    exact HC.out
  have hbw : b < w1.heap.size := World.block_lt_of_cell? _ _ z0
  clear hb b1 b2
  go_wp2_with fail
  go_ret2
  have h1 : kids.sz = 0 := by rw [hk]; rfl
  have h3 : (true && decide (m + (kids.sz + 1) ≤ 400)) = true := by rw [decide_eq_true (by omega)]; rfl
  refine ⟨m + 1, _, [], by rw [h3]; rfl, Or.inr ⟨_, _, rfl⟩, p1, p2, fun _ => ⟨by rw [h1], Or.inr (Or.inl ⟨rfl, ⟨l, by omega, by have := HJ.out; omega, ?_, rfl⟩, rfl⟩), fun b hb => by simp at hb⟩⟩
  rw [HJ.out, Int.toNat_natCast, show j + 1 + i - 1 - i = j by omega]
  exact HL.out

theorem rec_valid {lab fr : ByteArray} {ix b u d : Int} {k' ix' : Int} {fr' : ByteArray} {kids' : F} (hd : 1 ≤ d) (hsh : shapeB 4 fr ix (.cons lab k' fr' ix' kids' .nil) = true) :
    vldN 4 fr ix (.cons lab k' fr' ix' kids' .nil) b u d = vldN k' fr' ix' kids' (b + 1) (u + 1) (d - 1) := by
  conv => lhs; unfold vldN
  rw [nodeB_shape, hsh, decide_eq_true hd]
  simp [vldF, vldN]

theorem rec_end {w w3 : World} {c m m' L : Nat} {u : Value} {k' ix' : Int} {lab fr fr' : ByteArray} {kids' : F} {ps ks : List Nat} {v : Bool} (ho : Only c w w3) (hc : Ctr w3 c m') (hb : Blk w3 L #[.nilIface]) (hLw : w.heap.size ≤ L) (hLc : c ≠ L) (hLp : L ∉ ps)
    (hok : (v && decide (m + 1 + (kids'.sz + 1) ≤ 400)) = true → m' = m + 1 + (kids'.sz + 1) ∧ LkN w3 k' fr' ix' kids' (ps ++ [L]) u ks ∧ ∀ b, b ∈ ks → L < b) :
    LiPost c w m 4 fr 0 (.cons lab k' fr' ix' kids' .nil) ps v (.returned (.tuple #[.iface ( /- t -/ 56) (.pointer (some ⟨L, 0, none⟩)), .bool (v && decide (m + 1 + (kids'.sz + 1) ≤ 400))])) (w3.setCell ⟨L, 0, none⟩ u) := by
  have e : m + ((F.cons lab k' fr' ix' kids' .nil).sz + 1) = m + 1 + (kids'.sz + 1) := by simp only [F.sz]; omega
  refine ⟨m', _, L :: ks, by rw [e], Or.inr ⟨_, _, rfl⟩, ho.setCell (Or.inr hLw) _, hc.setOther hLc _, fun h => ?_⟩
  rw [e] at h ⊢
  obtain ⟨h1, h2, h3⟩ := hok h
  refine ⟨h1, Or.inr (Or.inr (Or.inl ⟨rfl, L, .string lab, u, ks, rfl, hb.set 0 u, hLp, rfl, u, [], ks, [], rfl, by simp, ?_, rfl, rfl⟩)), fun b hb => ?_⟩
  · exact h2.same (fun b hb => Below.heap_setCell _ _ _ _ (by have := h3 b hb; simp; omega))
  · rcases List.mem_cons.1 hb with rfl | hb
    · exact hLw
    · have := h3 b hb; omega

set_option maxHeartbeats 3200000 in
set_option maxRecDepth 100000 in
theorem li_rec (n : Nat) (ih : LiAt n) (w : World) (ix depth ung : Int) (fr : ByteArray) (sv lv : Value) (kids : F) (ps : List Nat) (c m : Nat) (hn : kids.sz < n + 1) (hp : Ps w lv ps) (hpl : ∀ l, l ∈ ps → l < w.heap.size) (hs : Sl w sv kids) (hc : Ctr w c m) (hm : m ≤ 399)
    (hd0 : 1 ≤ depth) (hd : depth ≤ 40) (hlen : ps.length + 1 ≤ depth) (hu : 0 ≤ ung) (hu2 : ung + 1 ≤ depth) (hsh : shapeB 4 fr ix kids = true) :
    Calls Try.prog 23 #[.agg #[.int .i64 4, .string fr, .int .i64 ix, sv], .agg #[.int .i64 depth, lv, .int .i64 ung], .pointer (some ⟨c, 0, none⟩)] w
      (LiPost c w m 4 fr ix kids ps (vldN 4 fr ix kids ps.length ung (41 - depth))) := by
  obtain ⟨e1, rfl, lab, k', fr', ix', kids', rfl, e3⟩ := shape_rec hsh
  rw [rec_valid (by omega) hsh, show 41 - depth - 1 = 41 - (depth + 1) by omega]
  obtain ⟨a, cap, rfl, -, hat⟩ := hs.at
  obtain ⟨b', o', rfl, -⟩ := hat.head
  obtain ⟨pa, pc, rfl, -, -⟩ := hp.val
  have h0 := hc.cell
  have h1 : w.frozen? ⟨c, 0, none⟩ = false := hc.frozen
  have h2 := hc.lt
  have HA := hide hat
  have HS := hide hs
  have HSH := hide hsh
  have HN := hide hn
  have HP := hide hp
  have HPL := hide hpl
  clear hs hsh hat hn e1 e3 hp hpl
  change Calls Try.prog 23 #[.agg #[.int .i64 4, .string fr, .int .i64 0, .slice (some ⟨b', o', none⟩) 1 cap], .agg #[.int .i64 depth, .slice pa ps.length pc, .int .i64 ung], .pointer (some ⟨c, 0, none⟩)] w _
  go_enter Try.func23, Try.ntmps23
  go_wp2_with fail
  have q0 := li_start (cs := #[.int .i64 4, .string fr, .int .i64 0, .slice (some ⟨b', o', none⟩) 1 cap]) (t := ( /- t -/ 25)) (ds := #[.int .i64 depth, .slice pa ps.length pc, .int .i64 ung]) (u := ( /- t -/ 53)) hc (Below.refl _ _)
  refine (implShape _ 4 0 fr _ _ (HS.out.only hc q0.1)).mono ?_
  clear q0
  rintro e w1 ⟨rfl, hb⟩
  rw [HSH.out]
  obtain ⟨p1, p2, hz, b1, b2⟩ := li_start hc (hb.mono (by simp))
  have x0 : w1.cell? ⟨w.heap.size, 0, none⟩ = some (.int .i64 4) := b1.cell 0
  have hz1 : w.heap.size < w1.heap.size := by omega
  have HB1 := hide b1
  have HB2 := hide b2
  clear hb b1 b2
  go_wp2_with fail
  have oW := p1.alloc (.cells #[.nilIface] ( /- t -/ 58))
  have cW := p2.alloc (.cells #[.nilIface] ( /- t -/ 58))
  have hbW := alloc_below w1 (.cells #[.nilIface] ( /- t -/ 58))
  have bL := Blk.now w1 #[.nilIface] ( /- t -/ 58)
  have B1 := HB1.out.below hbW
  have B2 := HB2.out.below hbW
  have hzW : w1.heap.size < (w1.alloc (.cells #[.nilIface] ( /- t -/ 58))).heap.size := by simp
  generalize (w1.alloc (.cells #[.nilIface] ( /- t -/ 58))) = W at *
  have hcL : c < w1.heap.size := by omega
  have hL1 : w.heap.size + 1 < w1.heap.size := hz
  generalize w1.heap.size = L at *
  obtain ⟨b2, o2, e2, -, -, -, -, d0, d1, d2, d3, ⟨sv', d4, hsv⟩, -⟩ := (HA.out.only hc oW).head
  simp only [Option.some.injEq, Addr.mk.injEq, and_true] at e2
  obtain ⟨rfl, rfl⟩ := e2
  simp only [Nat.zero_mul, Nat.add_zero] at d0 d1 d2 d3 d4
  obtain ⟨ka, kc, rfl, -, -⟩ := hsv.at
  have hbr : b' < W.heap.size := World.block_lt_of_cell? _ _ d0
  have hbc : b' ≠ c := by
    rintro rfl
    have g0 := d0
    obtain ⟨t, hh⟩ := cW
    simp only [World.cell?, hh] at g0
    cases o' with
    | zero => simp at g0
    | succ o => simp at g0
  have x3 : W.cell? ⟨w.heap.size, 3, none⟩ = some (.slice (some ⟨b', o', none⟩) 1 cap) := B1.cell 3
  have y0 : W.cell? ⟨w.heap.size + 1, 0, none⟩ = some (.int .i64 depth) := B2.cell 0
  have y1 : W.cell? ⟨w.heap.size + 1, 1, none⟩ = some (.slice pa ps.length pc) := B2.cell 1
  have y2 : W.cell? ⟨w.heap.size + 1, 2, none⟩ = some (.int .i64 ung) := B2.cell 2
  have hzW0 : w.heap.size < W.heap.size := by omega
  have hzW1 : w.heap.size + 1 < W.heap.size := by omega
  have HPd : Hid (Ps W.drew (.slice pa ps.length pc) ps) := by
    have h1 := HP.out.only hc oW
    exact h1.still (fun _ _ h => h)
  have hsvd : Sl W.drew (.slice ka kids'.len kc) kids' := Sl.still (w := W) (w' := W.drew) (fun _ _ h => h) hsv
  have HSV := hide hsvd
  have HBL := hide bL
  have HO := hide oW
  have HC := hide cW
  have hz3 : kids'.sz < n := by have := HN.out; simp only [F.sz] at this; omega
  have HZ := hide hz3
  clear x0 p1 p2 hbW HB1 HB2 B1 B2 hsv hsvd bL oW cW d0 hz3
  go_region_held3 (fun w' => w'.cell? ⟨w.heap.size, 3, none⟩ = some (.slice (some ⟨b', o', none⟩) 1 cap) ∧ w'.cell? ⟨b', o' + 1, none⟩ = some (.int .i64 k') ∧ w'.cell? ⟨b', o' + 2, none⟩ = some (.string fr') ∧ w'.cell? ⟨b', o' + 3, none⟩ = some (.int .i64 ix') ∧ w'.cell? ⟨b', o' + 4, none⟩ = some (.slice ka kids'.len kc) ∧
      w'.cell? ⟨w.heap.size + 1, 0, none⟩ = some (.int .i64 depth) ∧ w'.cell? ⟨w.heap.size + 1, 1, none⟩ = some (.slice pa ps.length pc) ∧ w'.cell? ⟨w.heap.size + 1, 2, none⟩ = some (.int .i64 ung))
    (first | exact ⟨x3, d1, d2, d3, d4, y0, y1, y2⟩ | exact ⟨g0, g1, g2, g3, g4, g5, g6, g7⟩ | exact ⟨l0, l1, l2, l3, l4, l5, l6, l7⟩)
    ((first
      | (go_at_call 36; refine (ins_calls _ depth ung _ ps L ?_ (by omega) (by omega) (by omega) (by omega) (by omega)).mono ?_; (exact HPd.out);
         rintro e w2 ⟨v', cap', rfl, hp2, hb2⟩; have hst := Still.of_below hb2; have g0 := hst _ _ x3; have g1 := hst _ _ d1; have g2 := hst _ _ d2; have g3 := hst _ _ d3; have g4 := hst _ _ d4; have g5 := hst _ _ y0; have g6 := hst _ _ y1; have g7 := hst _ _ y2)
      | (go_at_call 23; refine (ih _ k' ix' (depth + 1) (ung + 1) fr' _ _ kids' (ps ++ [L]) c (m + 1) HZ.out ?_ ?_ (by omega) ?_ ?_ (by omega) (by omega) (by simp; omega) (by omega) (by omega)).mono ?_;
         (exact HSV.out.still hst); (exact HC.out.drew.below hb2); (exact hp2.ps); (intro l hl; have := hb2.size; rcases List.mem_append.1 hl with hl | hl; exact Nat.lt_of_lt_of_le (HPL.out l hl) (by simp at this; omega); simp at hl this; omega);
         rintro e w3 ⟨m', u, ks, rfl, hu, o3, c3, hok⟩;
         have o4 := Only.below (Only.refl c W.drew) hb2; have o5 := o4.trans o3;
         have gg : ∀ b o v, b ≠ c → W.cell? ⟨b, o, none⟩ = some v → w3.cell? ⟨b, o, none⟩ = some v := fun b o v hne h => (Same.cell (o5.block b (World.block_lt_of_cell? _ _ h) hne)).trans h;
         have l0 := gg _ _ _ (by omega) x3; have l1 := gg _ _ _ hbc d1; have l2 := gg _ _ _ hbc d2; have l3 := gg _ _ _ hbc d3; have l4 := gg _ _ _ hbc d4; have l5 := gg _ _ _ (by omega) y0; have l6 := gg _ _ _ (by omega) y1; have l7 := gg _ _ _ (by omega) y2)))
  have bL3 : Blk w3 L #[.nilIface] := HBL.out.same (o5.block L HBL.out.lt (by omega))
  have hcl : w3.cell? ⟨L, 0, none⟩ = some .nilIface := bL3.cell 0
  have hfl : w3.frozen? ⟨L, 0, none⟩ = false := bL3.frozen 0
  have hltL : L < w3.heap.size := bL3.lt
  have oA := (HO.out.drew).trans o5
  rw [show (((ps ++ [L]).length : Nat) : Int) = (ps.length : Int) + 1 by simp] at hok
  have hLw : w.heap.size ≤ L := by omega
  have hLp : L ∉ ps := fun h => by have := HPL.out L h; omega
  have hW2 : L < w2.heap.size := by have := hb2.size; have h8 := HBL.out.lt; exact Nat.lt_of_lt_of_le h8 this
  have hw2w : w.heap.size ≤ w2.heap.size := by omega
  have HOK := hide hok
  have HOA := hide oA
  have HC3 := hide c3
  have HB3 := hide bL3
  clear hok oA c3 bL3 o3 o4 o5 gg hst g0 g1 g2 g3 g4 g5 g6 g7 l0 l1 l2 l3 l4 l5 l6 l7 x3 d1 d2 d3 d4 y0 y1 y2
  rcases hu with rfl | ⟨T, x, rfl⟩
  all_goals
    go_wp2_with fail
    go_ret2
    exact rec_end HOA.out HC3.out HB3.out hLw (by omega) hLp (fun h => ⟨(HOK.out h).1, (HOK.out h).2.1, fun b hb => Nat.lt_of_lt_of_le hW2 ((HOK.out h).2.2 b hb)⟩)
end Go.Proofs.Ytpjbffggeegdaaa.Lo

/- linkNode of the program: actions. -/
namespace Go.Proofs.Ytpjbffggeegdaaa.Lo
open Go.RowKit

theorem Try.info72 : (Try.prog.info? ( /- t -/ 72)).map (fun i => (i.zero, i.size, i.bytes)) = some (some (.agg #[.string ⟨#[]⟩, .nilIface]), 2, 32) := by kernel_rfl

/-- The branches up to a place are linked. -/
def ActR (w1 : World) (A c : Nat) (k : Int) (fr : ByteArray) (ps : List Nat) (p : F) (mm : Nat) (v : Value) (xs : List Value) (bs : List Nat) (wr : World) : Prop :=
  Ctr wr c mm ∧ Only c w1 wr ∧ Blk wr A #[.int .i64 k, .string fr, v] ∧ wr.ownsRow (A + 1) ( /- t -/ 72) 2 v p.len xs ∧ Lk wr p ps xs bs ∧ (∀ b, b ∈ bs → A < b) ∧ (∀ x, v.ownBlock = some x → x ∉ bs)

theorem act_start {w1 : World} {c mm : Nat} (k : Int) (fr : ByteArray) (ps : List Nat) (hc : Ctr w1 c mm) (t : TypeId) :
    ActR w1 w1.heap.size c k fr ps .nil mm (.slice none 0 0) [] [] (w1.alloc (.cells #[.int .i64 k, .string fr, .slice none 0 0] t)) :=
  ⟨hc.alloc _, (Only.refl c w1).alloc _, Blk.now _ _ _, World.ownsRow_nil _ _ _ _, ⟨rfl, rfl⟩, fun _ h => absurd h (List.not_mem_nil), fun _ h => by simp [Value.ownBlock] at h⟩

theorem act_step {w1 wr w3 W3 w4 : World} {A c mm m' : Nat} {k : Int} {fr : ByteArray} {ps : List Nat} {p : F} {v : Value} {xs : List Value} {bs ks : List Nat} {lab fr' : ByteArray} {kd ix' : Int} {kids' : F} {u : Value} {g cap : Nat}
    (hA : A = w1.heap.size) (hcA : c < A) (h : ActR w1 A c k fr ps p mm v xs bs wr) (o3 : Only c wr w3) (c3 : Ctr w3 c m') (hn : LkN w3 kd fr' ix' kids' ps u ks) (hks : ∀ b, b ∈ ks → wr.heap.size ≤ b) (hb3 : Below w3.heap.size w3 W3)
    (hown : w4.ownsRow (A + 1) ( /- t -/ 72) 2 (.slice (some ⟨g, 0, none⟩) (p.len + 1) cap) (p.len + 1) (xs ++ [.string lab, u])) (hgrow : W3.grownBy w4 v.ownBlock) (hat : v.ownBlock = some g ∨ g = W3.heap.size) :
    ActR w1 A c k fr ps (p.app (.cons lab kd fr' ix' kids' .nil)) m' (.slice (some ⟨g, 0, none⟩) (p.len + 1) cap) (xs ++ [.string lab, u]) (bs ++ ks) (w4.setCell ⟨A, 2, none⟩ (.slice (some ⟨g, 0, none⟩) (p.len + 1) cap)) := by
  obtain ⟨h1, h2, h3, h4, h5, h6, h7⟩ := h
  have hAr := h3.lt
  have hvl : ∀ x, v.ownBlock = some x → A + 1 ≤ x ∧ x < wr.heap.size := h4.lt
  have hgA : A + 1 ≤ g := (hown.lt g rfl).1
  have s3 := o3.size
  have s3' := hb3.size
  have hbl : ∀ b, b ∈ bs → b < wr.heap.size := Lk.lt _ _ _ _ h5
  have hkl : ∀ b, b ∈ ks → b < w3.heap.size := hn.lt
  have hrow : ∀ x, v.ownBlock = some x → x < wr.heap.size := fun x hx => (hvl x hx).2
  have keep : ∀ b, b < wr.heap.size → b ≠ c → v.ownBlock ≠ some b → b ≠ A → (w4.setCell ⟨A, 2, none⟩ (.slice (some ⟨g, 0, none⟩) (p.len + 1) cap)).heap[b]? = wr.heap[b]? := fun b hb hc hv ha => by
    rw [Below.heap_setCell _ _ _ _ (show b ≠ (⟨A, 2, none⟩ : Addr).block from ha), hgrow.block b (by omega) (fun e => hv e.symm), hb3.block b (by omega)]
    exact o3.block b hb hc
  have keep3 : ∀ b, wr.heap.size ≤ b → b < w3.heap.size → (w4.setCell ⟨A, 2, none⟩ (.slice (some ⟨g, 0, none⟩) (p.len + 1) cap)).heap[b]? = w3.heap[b]? := fun b hb hb' => by
    rw [Below.heap_setCell _ _ _ _ (show b ≠ (⟨A, 2, none⟩ : Addr).block by show b ≠ A; omega), hgrow.block b (by omega) (fun e => by have := hrow b e.symm; omega), hb3.block b hb']
  refine ⟨?_, ?_, ?_, ?_, ?_, ?_, ?_⟩
  · refine (c3.same ((hgrow.block c (by have := c3.lt; omega) (fun e => by have := (hvl c e.symm).1; omega)).trans (hb3.block c c3.lt))).setOther (show c ≠ A by omega) _
  · have o4 : Only c w1 w4 := by
      have o := (h2.trans o3).below hb3
      refine ⟨hgrow.os.trans o.os, hgrow.tape.trans o.tape, hgrow.output.trans o.output, Nat.le_trans o.size hgrow.size, fun i hi hic => ?_⟩
      rw [hgrow.block i (Nat.lt_of_lt_of_le hi o.size) (fun e => by have := (hvl i e.symm).1; omega)]
      exact o.block i hi hic
    exact o4.setCell (Or.inr (show w1.heap.size ≤ A by omega)) _
  · have hA4 : w4.heap[A]? = wr.heap[A]? := by
      rw [hgrow.block A (by omega) (fun e => by have := (hvl A e.symm).1; omega), hb3.block A (by omega)]
      exact o3.block A hAr (by omega)
    exact (h3.same hA4).set 2 _
  · have e := F.len_app (.cons lab kd fr' ix' kids' .nil) p
    have : (p.app (.cons lab kd fr' ix' kids' .nil)).len = p.len + 1 := by rw [e]; rfl
    rw [this]
    exact ownsRow_setCell_other hown (fun e => by simp [Value.ownBlock] at e; omega) _
  · refine Lk.snoc p ps xs bs (h5.same _ _ _ _ (fun b hb => keep b (hbl b hb) (by have := h6 b hb; omega) (fun e => h7 b e hb) (by have := h6 b hb; omega))) (hn.same (fun b hb => keep3 b (hks b hb) (hkl b hb)))
  · intro b hb
    rcases List.mem_append.1 hb with hb | hb
    · exact h6 b hb
    · have := hks b hb; omega
  · intro x hx hm
    have hxg : g = x := by simpa [Value.ownBlock] using hx
    subst hxg
    rcases List.mem_append.1 hm with hm | hm
    · rcases hat with hat | hat
      · exact h7 _ hat hm
      · have := hbl _ hm; omega
    · rcases hat with hat | hat
      · have := hrow _ hat; have := hks _ hm; omega
      · have := hkl _ hm; omega

theorem act_end {w w1 wr : World} {A c m mm : Nat} {k : Int} {fr : ByteArray} {ps : List Nat} {p : F} {v : Value} {xs : List Value} {bs : List Nat} {b0 : Bool} (hk : k = 2 ∨ k = 3) (hA : A = w1.heap.size) (ho : Only c w w1)
    (h : ActR w1 A c k fr ps p mm v xs bs wr) (hp : p ≠ .nil) (hm : mm = m + (p.sz + 1)) (hb : b0 = true) (h4 : m + (p.sz + 1) ≤ 400) :
    LiPost c w m k fr 0 p ps b0 (.returned (.tuple #[.iface ( /- t -/ 40) (.pointer (some ⟨A, 0, none⟩)), .bool true])) wr := by
  obtain ⟨h1, h2, h3, h4', h5, h6, h7⟩ := h
  have hpl : p.len ≠ 0 := fun e => hp (nil_of_len e)
  have s1 := ho.size
  obtain ⟨hl, ⟨-, h0⟩ | ⟨g, cp, cur, rfl, hg, hgh, g1, g2, g3, g4⟩⟩ := h4'
  · exact absurd h0 hpl
  refine ⟨mm, _, A :: g :: bs, by rw [hb, decide_eq_true h4]; rfl, Or.inr ⟨_, _, rfl⟩, ho.trans h2, h1, fun _ => ⟨hm, Or.inr (Or.inr (Or.inr ⟨hk, A, g, cp, cur, xs, bs, rfl, h3, g1, g2, ⟨_, hgh⟩, g4, rfl, h5⟩)), fun b hb => ?_⟩⟩
  rcases List.mem_cons.1 hb with rfl | hb
  · omega
  · rcases List.mem_cons.1 hb with rfl | hb
    · omega
    · have := h6 b hb; omega

theorem len_le_sz : ∀ f : F, f.len ≤ f.sz
  | .nil => Nat.le_refl _
  | .cons _ _ _ _ _ rest => by have := len_le_sz rest; simp only [F.len, F.sz]; omega

theorem act_valid {k ix b u d : Int} {fr : ByteArray} {kids : F} (hk : k = 2 ∨ k = 3) (hd : 1 ≤ d) (hsh : shapeB k fr ix kids = true) : vldN k fr ix kids b u d = vldF kids b 0 (d - 1) := by
  conv => lhs; unfold vldN
  rw [nodeB_shape, hsh, decide_eq_true hd, if_neg (by omega), if_neg (by omega), if_pos hk]
  rfl
end Go.Proofs.Ytpjbffggeegdaaa.Lo

/- linkNode of the program: the walk of an action; linkNode whole; linkLocal. -/
namespace Go.Proofs.Ytpjbffggeegdaaa.Lo
open Go.RowKit

set_option maxHeartbeats 3200000 in
set_option maxRecDepth 100000 in
theorem li_act (n : Nat) (ih : LiAt n) (w : World) (k ix depth ung : Int) (fr : ByteArray) (sv lv : Value) (kids : F) (ps : List Nat) (c m : Nat) (hkk : k = 2 ∨ k = 3) (hn : kids.sz < n + 1) (hp : Ps w lv ps) (hpl : ∀ l, l ∈ ps → l < w.heap.size) (hs : Sl w sv kids) (hc : Ctr w c m) (hm : m ≤ 399)
    (hd0 : 1 ≤ depth) (hd : depth ≤ 40) (hlen : ps.length + 1 ≤ depth) (hsh : shapeB k fr ix kids = true) :
    Calls Try.prog 23 #[.agg #[.int .i64 k, .string fr, .int .i64 ix, sv], .agg #[.int .i64 depth, lv, .int .i64 ung], .pointer (some ⟨c, 0, none⟩)] w
      (LiPost c w m k fr ix kids ps (vldN k fr ix kids ps.length ung (41 - depth))) := by
  obtain ⟨e1, rfl, e5⟩ := shape_act hkk hsh
  obtain ⟨i0, hi, hz0, hz1, hz2⟩ := info_parts Try.info72
  rw [act_valid hkk (by omega) hsh, show 41 - depth - 1 = 41 - (depth + 1) by omega]
  have hk1 : (k == 1) = false := beq_eq_false_iff_ne.2 (by omega)
  have hk4 : (k == 4) = false := beq_eq_false_iff_ne.2 (by omega)
  have hk5 : (k == 5) = false := beq_eq_false_iff_ne.2 (by omega)
  have hne : kids ≠ .nil := by
    rintro rfl
    simp [branchesB, F.len] at e5
  obtain ⟨a, cap, rfl, hlk, hat⟩ := hs.at
  unfold maxLen at hlk
  obtain ⟨pa, pc, rfl, -, -⟩ := hp.val
  have h0 := hc.cell
  have h1 : w.frozen? ⟨c, 0, none⟩ = false := hc.frozen
  have h2 := hc.lt
  have HA := hide hat
  have HS := hide hs
  have HSH := hide hsh
  have HN := hide hn
  have HP := hide hp
  have HPL := hide hpl
  have HKK := hide hkk
  have HNE := hide hne
  have HI := hide hi
  have HI0 := hide hz0
  have HI1 := hide hz1
  have HI2 := hide hz2
  clear hs hsh hat hn e1 e5 hp hpl hkk hne hi hz0 hz1 hz2
  go_enter Try.func23, Try.ntmps23
  go_wp2_with fail
  have q0 := li_start (cs := #[.int .i64 k, .string fr, .int .i64 0, .slice a kids.len cap]) (t := ( /- t -/ 25)) (ds := #[.int .i64 depth, .slice pa ps.length pc, .int .i64 ung]) (u := ( /- t -/ 53)) hc (Below.refl _ _)
  refine (implShape _ k 0 fr _ _ (HS.out.only hc q0.1)).mono ?_
  clear q0
  rintro e w1 ⟨rfl, hb⟩
  rw [HSH.out]
  obtain ⟨p1, p2, hz, b1, b2⟩ := li_start hc (hb.mono (by simp))
  have x0 : w1.cell? ⟨w.heap.size, 0, none⟩ = some (.int .i64 k) := b1.cell 0
  have x1 : w1.cell? ⟨w.heap.size, 1, none⟩ = some (.string fr) := b1.cell 1
  have x3 : w1.cell? ⟨w.heap.size, 3, none⟩ = some (.slice a kids.len cap) := b1.cell 3
  have hz1 : w.heap.size < w1.heap.size := by omega
  have HB2 := hide b2
  clear hb b1 b2
  go_wp2_with fail
  have hact := act_start k fr ps p2 ( /- t -/ 43)
  have HACT := hide hact
  have HP1 := hide p1
  clear hact p1 p2
  go_loopw [102] (fun iv wr => ∃ (p g : F) (mm : Nat) (v : Value) (xs : List Value) (bs : List Nat), kids = p.app g ∧ iv = .int .i64 (p.len : Nat) ∧ At w a p.len g ∧ mm ≤ 400 ∧ mm + g.sz = m + 1 + kids.sz ∧ vldF kids ps.length 0 (41 - (depth + 1)) = vldF g ps.length 0 (41 - (depth + 1)) ∧
    ActR w1 w1.heap.size c k fr ps p mm v xs bs wr) (fun iv _ => kids.len - (intOf iv).toNat)
  case atStart => exact ⟨.nil, kids, m + 1, _, [], [], rfl, rfl, HA.out, by omega, rfl, rfl, HACT.out⟩
  case round =>
    obtain ⟨p, g, mm, v, xs, bs, hke, rfl, hg, hmm, hsum, hvl, hA⟩ := hrel
    have HKE := hide hke
    have HSUM := hide hsum
    have HVL := hide hvl
    have HAC := hide hA
    clear hke hsum hvl hA
    cases g with
    | nil =>
      have hge : kids.len ≤ p.len := by rw [HKE.out, F.app_nil]; exact Nat.le_refl _
      go_wp2_with fail
      go_ret2
      have e : kids = p := by rw [HKE.out, F.app_nil]
      have h6 := HSUM.out
      simp only [F.sz] at h6
      have hne := HNE.out
      rw [HVL.out]
      rw [e] at h6 hne ⊢
      exact act_end HKK.out rfl HP1.out HAC.out hne (by omega) rfl (by omega)
    | cons lab kd fr' ix' kids' rest =>
      have hlt : p.len < kids.len := by rw [HKE.out, F.len_app]; simp only [F.len]; omega
      have HZ : Hid (kids'.sz < n) := by
        have h1 := HN.out
        rw [HKE.out, F.sz_app] at h1
        unfold Hid
        simp only [F.sz] at h1
        omega
      have hac := HAC.out
      have cr := hac.1
      have oA := HP1.out.trans hac.2.1
      obtain ⟨b', o, rfl, l1, l2, -, -, q0, q1, q2, q3, ⟨sv', q4, hsv⟩, -⟩ := (hg.only hc oA).head
      obtain ⟨ka, kc, rfl, -, -⟩ := hsv.at
      have hbr : b' < wr.heap.size := World.block_lt_of_cell? _ _ q0
      have hwr := hac.2.1.size
      have B2 := HB2.out.only hac.2.1 (by omega)
      have HPW := hide (HP.out.only hc oA)
      have HSV := hide hsv
      have HCR := hide cr
      have HOA := hide oA
      have HG := hide hg
      have HBX := hide B2
      have hcA : c < w1.heap.size := by omega
      clear hac cr oA hsv hg B2
      go_wp2_with fail
      have hbW := alloc_below wr (.cells #[.string lab, .int .i64 kd, .string fr', .int .i64 ix', .slice ka kids'.len kc] ( /- t -/ 65))
      have hbX := Blk.now wr #[.string lab, .int .i64 kd, .string fr', .int .i64 ix', .slice ka kids'.len kc] ( /- t -/ 65)
      have hXl : wr.heap.size < (wr.alloc (.cells #[.string lab, .int .i64 kd, .string fr', .int .i64 ix', .slice ka kids'.len kc] ( /- t -/ 65))).heap.size := by simp
      generalize (wr.alloc (.cells #[.string lab, .int .i64 kd, .string fr', .int .i64 ix', .slice ka kids'.len kc] ( /- t -/ 65))) = W at *
      have z0 : W.cell? ⟨wr.heap.size, 0, none⟩ = some (.string lab) := hbX.cell 0
      have z1 : W.cell? ⟨wr.heap.size, 1, none⟩ = some (.int .i64 kd) := hbX.cell 1
      have z2 : W.cell? ⟨wr.heap.size, 2, none⟩ = some (.string fr') := hbX.cell 2
      have z3 : W.cell? ⟨wr.heap.size, 3, none⟩ = some (.int .i64 ix') := hbX.cell 3
      have z4 : W.cell? ⟨wr.heap.size, 4, none⟩ = some (.slice ka kids'.len kc) := hbX.cell 4
      have BW := HBX.out.below hbW
      have y0 : W.cell? ⟨w.heap.size + 1, 0, none⟩ = some (.int .i64 depth) := BW.cell 0
      have y1 : W.cell? ⟨w.heap.size + 1, 1, none⟩ = some (.slice pa ps.length pc) := BW.cell 1
      have y2 : W.cell? ⟨w.heap.size + 1, 2, none⟩ = some (.int .i64 ung) := BW.cell 2
      have hsW : w.heap.size + 1 < W.heap.size := by omega
      have hpd : Ps W.drew (.slice pa ps.length pc) ps := Ps.still (w' := W.drew) (Still.of_below hbW.drew) HPW.out
      have HPD := hide hpd
      have hsvd : Sl W.drew (.slice ka kids'.len kc) kids' := Sl.still (w' := W.drew) (Still.of_below hbW.drew) HSV.out
      have HSVD := hide hsvd
      have hcd : Ctr W.drew c mm := (HCR.out.below hbW).drew
      have HCD := hide hcd
      have HBW := hide hbW
      have HBXX := hide hbX
      clear hpd hsvd hcd hbW hbX BW q0 q1 q2 q3 q4 HPW HSV HCR HBX x0 x1 x3
      go_region_held3 (fun w' => w'.cell? ⟨wr.heap.size, 1, none⟩ = some (.int .i64 kd) ∧ w'.cell? ⟨wr.heap.size, 2, none⟩ = some (.string fr') ∧ w'.cell? ⟨wr.heap.size, 3, none⟩ = some (.int .i64 ix') ∧ w'.cell? ⟨wr.heap.size, 4, none⟩ = some (.slice ka kids'.len kc) ∧
          w'.cell? ⟨w.heap.size + 1, 0, none⟩ = some (.int .i64 depth) ∧ w'.cell? ⟨w.heap.size + 1, 1, none⟩ = some (.slice pa ps.length pc) ∧ w'.cell? ⟨w.heap.size + 1, 2, none⟩ = some (.int .i64 ung))
        (first | exact ⟨z1, z2, z3, z4, y0, y1, y2⟩ | exact ⟨g1, g2, g3, g4, g5, g6, g7⟩ | exact ⟨l1, l2, l3, l4, l5, l6, l7⟩)
        ((first
          | (go_at_call 37; refine (below_calls _ depth ung _ ps ?_ (by omega) (by omega)).mono ?_; (exact HPD.out);
             rintro e w2 ⟨rfl, hb2⟩; have hst := Still.of_below hb2; have g1 := hst _ _ z1; have g2 := hst _ _ z2; have g3 := hst _ _ z3; have g4 := hst _ _ z4; have g5 := hst _ _ y0; have g6 := hst _ _ y1; have g7 := hst _ _ y2)
          | (go_at_call 23; refine (ih _ kd ix' (depth + 1) 0 fr' _ _ kids' ps c mm HZ.out ?_ ?_ hmm ?_ ?_ (by omega) (by omega) (by omega) (by omega) (by omega)).mono ?_;
             (exact HSVD.out.still hst); (exact HCD.out.below hb2); (exact HPD.out.still hst); (intro l hl; have h8 := hb2.size; have h9 := HPL.out l hl; simp at h8; omega);
             rintro e w3 ⟨m', u, ks, rfl, hu, o3, c3, hok⟩;
             have o4 := Only.below (Only.refl c W.drew) hb2; have o5 := o4.trans o3;
             have gg : ∀ b o v, b ≠ c → W.cell? ⟨b, o, none⟩ = some v → w3.cell? ⟨b, o, none⟩ = some v := fun b o v hne h => (Same.cell (o5.block b (World.block_lt_of_cell? _ _ h) hne)).trans h;
             have l1 := gg _ _ _ (by omega) z1; have l2 := gg _ _ _ (by omega) z2; have l3 := gg _ _ _ (by omega) z3; have l4 := gg _ _ _ (by omega) z4; have l5 := gg _ _ _ (by omega) y0; have l6 := gg _ _ _ (by omega) y1; have l7 := gg _ _ _ (by omega) y2)))
      have l0 : w3.cell? ⟨wr.heap.size, 0, none⟩ = some (.string lab) := gg _ _ _ (by omega) z0
      have HOK := hide hok
      have HC3 := hide c3
      have HO5 := hide o5
      have hw2 : W.heap.size ≤ w2.heap.size := hb2.size
      have hw3 : w2.heap.size ≤ w3.heap.size := o3.size
      clear hok c3 o3 o4 o5 gg hb2 hst g1 g2 g3 g4 g5 g6 g7 l1 l2 l3 l4 z0 z1 z2 z3 z4 y0 y1 y2
      have hvk : vldF (.cons lab kd fr' ix' kids' rest) ps.length 0 (41 - (depth + 1)) = (vldN kd fr' ix' kids' ps.length 0 (41 - (depth + 1)) && vldF rest ps.length 0 (41 - (depth + 1))) := rfl
      have HVK := hide hvk
      have hs6 := HSUM.out
      simp only [F.sz] at hs6
      have HS6 := hide hs6
      clear hvk hs6
      cases hb8 : (vldN kd fr' ix' kids' ps.length 0 (41 - (depth + 1)) && decide (mm + (kids'.sz + 1) ≤ 400)) with
      | false =>
        have HB8 := hide hb8
        clear hb8
        go_wp2_with fail
        go_ret2
        have hfin : (vldF kids ps.length 0 (41 - (depth + 1)) && decide (m + (kids.sz + 1) ≤ 400)) = false := by
          rw [HVL.out, HVK.out]
          have h8 := HB8.out
          have h6 := HS6.out
          cases hvv : vldN kd fr' ix' kids' ps.length 0 (41 - (depth + 1)) with
          | false => rfl
          | true =>
            rw [hvv, Bool.true_and] at h8
            have h9 := of_decide_eq_false h8
            rw [decide_eq_false (by omega), Bool.and_false]
        exact li_no hfin (((HOA.out.below HBW.out).drew).trans HO5.out) HC3.out
      | true =>
        have HB8 := hide hb8
        obtain ⟨hm', hln, hks⟩ := HOK.out hb8
        have h10 : m' ≤ 400 := by
          simp only [Bool.and_eq_true, decide_eq_true_eq] at hb8
          omega
        obtain ⟨T, x, rfl⟩ := hln.val
        have HM := hide hm'
        have HLN := hide hln
        have HKS := hide hks
        clear hb8 hm' hln hks hu
        have hA3 : Blk w3 w1.heap.size #[.int .i64 k, .string fr, v] := Blk.only (w := W.drew) (c := c) (HAC.out.2.2.1.below HBW.out.drew) HO5.out (by omega)
        have a2 : w3.cell? ⟨w1.heap.size, 2, none⟩ = some v := hA3.cell 2
        have HA3 := hide hA3
        have a0 : w3.cell? ⟨w1.heap.size, 0, none⟩ = some (.int .i64 k) := hA3.cell 0
        have hAl : w1.heap.size < w3.heap.size := hA3.lt
        go_wp2_with fail
        have hown := (HAC.out.2.2.2.1)
        have hvb : ∀ x, v.ownBlock = some x → w1.heap.size + 1 ≤ x ∧ x < wr.heap.size := hown.lt
        have hown3 : w3.ownsRow (w1.heap.size + 1) ( /- t -/ 72) 2 v p.len xs := by
          refine hown.kept (w' := w3) (row := some c) ⟨?_, ?_, ?_, ?_, fun b hb hne => ?_⟩ (Or.inr (fun e => by have := (hvb c e).1; omega))
          · exact HO5.out.os.trans HBW.out.os
          · exact HO5.out.tape.trans HBW.out.tape
          · exact HO5.out.output.trans HBW.out.output
          · omega
          · exact (HO5.out.block b (by show b < W.heap.size; omega) (fun e => hne (by rw [e]))).trans (HBW.out.block b hb)
        have hX : v.ownBlock ≠ some wr.heap.size := fun e => by have := (hvb _ e).2; omega
        have hlab : Hid (lab.size ≤ maxLen) := l1
        have hAX : wr.heap.size ≠ w1.heap.size := by have := HAC.out.2.2.1.lt; omega
        have HOW := hide hown3
        have HVB := hide hvb
        have hpk : p.len + 1 ≤ 400 := by
          have h1 := HSUM.out
          have h2 := len_le_sz p
          rw [HKE.out, F.sz_app] at h1
          omega
        go_region_law
          (refine step_append_lies _ (by rfl) _ _ _ (by rfl) (w1.heap.size + 1) ( /- t -/ 72) i0 _ 2 32 Try.underlying41 HI.out HI0.out HI1.out HI2.out rfl (by omega) v p.len xs (by rfl) ((HOW.out.alloc _).drew)
              ⟨w3.heap.size, 0, none⟩ 1 1 [.string lab, .iface T x] (by rfl) (by rfl) (World.news_of_block (cs := #[.string lab, .iface T x]) (t := ( /- t -/ 72)) (fr := (0, 0)) (heap_alloc_new w3 _)) (by simp [Value.oneCell'])
              (by omega) (by unfold maxLen; omega) (by omega) (by simp; omega) (w3.heap.size + 1) (by simp) ?_; intro gg cp w4 hown4 hgrow hat hlt4;
            have hA4 := Blk.same HA3.out ((hgrow.block w1.heap.size (by simp; omega) (fun e => by have := (HVB.out _ e.symm).1; omega)).trans (Below.heap_alloc w3 _ _ hAl));
            have e0 : w4.cell? ⟨w1.heap.size, 0, none⟩ = some (.int .i64 k) := hA4.cell 0;
            have e2 : w4.cell? ⟨w1.heap.size, 2, none⟩ = some v := hA4.cell 2;
            have ef : ∀ o, w4.frozen? ⟨w1.heap.size, o, none⟩ = false := hA4.frozen;
            have el : w1.heap.size < w4.heap.size := hA4.lt)
        all_goals
          go_wp2_with fail
          refine ⟨⟨p.app (.cons lab kd fr' ix' kids' .nil), rest, m', _, _, _, by rw [HKE.out, F.app_assoc]; rfl, by rw [F.len_app]; rfl, by rw [F.len_app]; exact HG.out.tail, h10, ?_, ?_,
            act_step rfl hcA HAC.out ((Only.below (Only.refl c wr) HBW.out).drew.trans HO5.out) HC3.out HLN.out (fun b hb => by have := HKS.out b hb; omega) ((alloc_below w3 _).drew) hown4 hgrow (by rcases hat with h | h; exact Or.inl h; exact Or.inr (by rw [h]; simp))⟩, by simp [intOf]; omega⟩
          · have h6 := HS6.out
            have h7 := HM.out
            omega
          · rw [HVL.out, HVK.out]
            have h8 := HB8.out
            simp only [Bool.and_eq_true] at h8
            rw [h8.1, Bool.true_and]

theorem li_all : ∀ n, LiAt n := by
  intro n
  induction n with
  | zero => intro w k ix depth ung fr sv lv kids ps c m hn; omega
  | succ n ih =>
    intro w k ix depth ung fr sv lv kids ps c m hn hs hc hm hp hpl hd0 hd hlen hu hu2
    by_cases hm4 : 400 ≤ m
    · exact li_full w k ix depth ung fr sv lv kids ps c m _ hp hc hm4 hm
    by_cases hd4 : 40 < depth
    · exact li_deep w k ix depth ung fr sv lv kids ps c m hp hc (by omega) hd4
    cases hsh : shapeB k fr ix kids with
    | false => exact li_bad w k ix depth ung fr sv lv kids ps c m hp hs hc (by omega) (by omega) hsh
    | true =>
      by_cases h1 : k = 1
      · subst h1; exact li_end w ix depth ung fr sv lv kids ps c m hp hs hc (by omega) hd0 (by omega) hsh
      by_cases h2 : k = 2 ∨ k = 3
      · exact li_act n ih w k ix depth ung fr sv lv kids ps c m h2 hn hp hpl hs hc (by omega) hd0 (by omega) hlen hsh
      by_cases h4 : k = 4
      · subst h4; exact li_rec n ih w ix depth ung fr sv lv kids ps c m hn hp hpl hs hc (by omega) hd0 (by omega) hlen hu hu2 hsh
      by_cases h5 : k = 5
      · subst h5
        by_cases hix : ix < ung ∨ (ung ≤ ix ∧ ps.length ≤ ix)
        · exact li_var_bad w ix depth ung fr sv lv kids ps c m hp hs hc (by omega) (by omega) hsh hix
        · obtain ⟨i, rfl⟩ := Int.eq_ofNat_of_zero_le (show 0 ≤ ix by omega)
          exact li_var_ok w depth ung i (ps.length - 1 - i) fr sv lv kids ps c m hp hs hc (by omega) (by omega) hlen hsh (by omega) (by omega)
      · simp [shapeB, h1, h2, h4, h5] at hsh

/-- What linkLocal gives. -/
def LinkPost (w : World) (k : Int) (fr : ByteArray) (ix : Int) (kids : F) (e : Ending) (w' : World) : Prop :=
  ∃ u bs, e = .returned (.tuple #[u, .bool (okN k fr ix kids)]) ∧ (u = .nilIface ∨ ∃ T x, u = .iface T x) ∧ Below w.heap.size w w' ∧ (okN k fr ix kids = true → LkN w' k fr ix kids [] u bs ∧ ∀ b, b ∈ bs → w.heap.size ≤ b)

set_option maxHeartbeats 400000 in
set_option maxRecDepth 100000 in
/-- linkLocal of the program. -/
theorem implLink (w : World) (k ix : Int) (fr : ByteArray) (sv : Value) (kids : F) (hs : Sl w sv kids) :
    Calls Try.prog 11 #[.agg #[.int .i64 k, .string fr, .int .i64 ix, sv]] w (LinkPost w k fr ix kids) := by
  have HS := hide hs
  clear hs
  go_enter Try.func11, Try.ntmps11
  go_wp2_with fail
  have hb1 := alloc_below w (.cells #[.int .i64 k, .string fr, .int .i64 ix, sv] ( /- t -/ 25))
  have hb2 := hb1.alloc (by simp) (.cells #[.int .i64 0] ( /- t -/ 3))
  have hc : Ctr ((w.alloc (.cells #[.int .i64 k, .string fr, .int .i64 ix, sv] ( /- t -/ 25))).alloc (.cells #[.int .i64 0] ( /- t -/ 3))) (w.heap.size + 1) ((0 : Nat) : Int) :=
    ⟨_, by have := alloc_last (w.alloc (.cells #[.int .i64 k, .string fr, .int .i64 ix, sv] ( /- t -/ 25))) #[.int .i64 0] ( /- t -/ 3); simpa using this⟩
  refine (li_all (kids.sz + 1) _ k ix 1 0 fr sv _ kids [] (w.heap.size + 1) 0 (Nat.lt_succ_self _) (HS.out.still (Still.of_below hb2)) hc (by omega) (Ps.nil _) (fun l h => absurd h (List.not_mem_nil)) (by omega) (by omega) (by simp) (by omega) (by omega)).mono ?_
  rintro e w1 ⟨m', u, bs, rfl, hu, o1, c1, hok⟩
  have hb3 : Below w.heap.size w w1 := hb2.trans (o1.to_below (by omega) hb2.size)
  have hv : (vldN k fr ix kids (([] : List Nat).length : Nat) 0 (41 - 1) && decide (0 + (kids.sz + 1) ≤ 400)) = okN k fr ix kids := by
    unfold okN
    rw [Nat.zero_add]
    rfl
  rw [hv] at hok ⊢
  have HOK := hide hok
  have HB3 := hide hb3
  have hz := hb2.size
  have HZ := hide hz
  clear hc hb1 hb2 o1 c1 hv hok hb3 hz
  rcases hu with rfl | ⟨T, x, rfl⟩
  · go_wp2_with fail
    go_ret2
    exact ⟨_, bs, rfl, Or.inl rfl, HB3.out, fun h => ⟨(HOK.out h).2.1, fun b hb => by have := (HOK.out h).2.2 b hb; simp at this; omega⟩⟩
  · go_wp2_with fail
    go_ret2
    exact ⟨_, bs, rfl, Or.inr ⟨_, _, rfl⟩, HB3.out, fun h => ⟨(HOK.out h).2.1, fun b hb => by have := (HOK.out h).2.2 b hb; simp at this; omega⟩⟩

end Go.Proofs.Ytpjbffggeegdaaa.Lo
