/- The environment of the copy of a global type: a slice of closures and nils, read as the list of the recursions around, the innermost first. -/
import Derived.Test.YtgcefippeokmcaaUv
import Derived.Test.YtgcefippeokmcaaGr
namespace Go.Proofs.Ytgcefippeokmcaa
open Go.RowKit

/-- The fields fit into values. -/
def Fit (g : Nd) : Prop := g.fr.size ≤ maxLen ∧ g.tg.size ≤ maxLen ∧ (Lit.int .i64 g.k).wf = true ∧ (Lit.int .i64 g.ix).wf = true

/-- A node's five cells. -/
def Cell5 (w : World) (b : Nat) (g : Nd) (sv : Value) : Prop :=
  w.cell? ⟨b, 0, none⟩ = some (.int .i64 g.k) ∧ w.cell? ⟨b, 1, none⟩ = some (.string g.fr) ∧ w.cell? ⟨b, 2, none⟩ = some (.string g.tg) ∧ w.cell? ⟨b, 3, none⟩ = some (.int .i64 g.ix) ∧ w.cell? ⟨b, 4, none⟩ = some sv

/-- The closure over a recursion's box, the environment's box and the counter. -/
def cloV (rb ob c : Nat) : Value := .func (.func ( /- f -/ 17)) #[] #[.pointer (some ⟨rb, 0, none⟩), .pointer (some ⟨ob, 0, none⟩), .pointer (some ⟨c, 0, none⟩)]

/-- The slice reads as the list; the trees lie in the first world. -/
def EnvIs (W0 w : World) (c : Nat) : List (Option Nd) → Value → Prop
  | [], ev => ∃ a cap, ev = .slice a 0 cap ∧ cap ≤ maxLen ∧ (a = none → cap = 0)
  | x :: t, ev => ∃ b cap, ev = .slice (some ⟨b, 0, none⟩) (t.length + 1) cap ∧ t.length + 1 ≤ cap ∧ cap ≤ maxLen ∧ EnvIs W0 w c t (.slice (some ⟨b, 0, none⟩) t.length cap) ∧
      match x with
      | none => w.cell? ⟨b, t.length, none⟩ = some .nilFunc
      | some R => ∃ rb ob sv ov, w.cell? ⟨b, t.length, none⟩ = some (cloV rb ob c) ∧ Cell5 w rb R sv ∧ Sl W0 sv R.kids ∧ Fit R ∧ w.cell? ⟨ob, 0, none⟩ = some ov ∧ EnvIs W0 w c t ov ∧ c < rb

theorem EnvIs.form {W0 w : World} {c : Nat} {s : List (Option Nd)} {ev : Value} (h : EnvIs W0 w c s ev) : ∃ a cap, ev = .slice a s.length cap ∧ s.length ≤ cap ∧ cap ≤ maxLen ∧ (a = none → s.length = 0 ∧ cap = 0) := by
  cases s with
  | nil =>
    obtain ⟨a, cap, rfl, h1, h2⟩ := h
    exact ⟨a, cap, rfl, Nat.zero_le _, h1, fun e => ⟨rfl, h2 e⟩⟩
  | cons x t =>
    obtain ⟨b, cap, rfl, h1, h2, _⟩ := h
    exact ⟨_, cap, rfl, h1, h2, fun e => by cases e⟩

/-- The entry behind the i innermost ones. -/
theorem EnvIs.at {W0 w : World} {c : Nat} : ∀ (s : List (Option Nd)) (b cap : Nat), EnvIs W0 w c s (.slice (some ⟨b, 0, none⟩) s.length cap) → ∀ i, i < s.length → ∃ p x t, s = p ++ x :: t ∧ p.length = i ∧
    match x with
      | none => w.cell? ⟨b, t.length, none⟩ = some .nilFunc
      | some R => ∃ rb ob sv ov, w.cell? ⟨b, t.length, none⟩ = some (cloV rb ob c) ∧ Cell5 w rb R sv ∧ Sl W0 sv R.kids ∧ Fit R ∧ w.cell? ⟨ob, 0, none⟩ = some ov ∧ EnvIs W0 w c t ov ∧ c < rb := by
  intro s
  induction s with
  | nil => intro b cap _ i hi; simp at hi
  | cons x t ih =>
    intro b cap h i hi
    obtain ⟨b', cap', e, _, _, ht, hx⟩ := h
    simp only [Value.slice.injEq, Option.some.injEq, Addr.mk.injEq, and_true] at e
    obtain ⟨rfl, _, rfl⟩ := e
    cases i with
    | zero => exact ⟨[], x, t, rfl, rfl, hx⟩
    | succ i =>
      obtain ⟨p, y, q, rfl, hp, hy⟩ := ih b cap ht i (by simpa using hi)
      exact ⟨x :: p, y, q, rfl, by simp [hp], hy⟩

theorem EnvIs.keep {W0 w w' : World} {c : Nat} (bad : Addr → Prop) (N : Nat) (hk : ∀ p v, w.cell? p = some v → ¬ bad p → w'.cell? p = some v)
    (h1 : ∀ b j v, j < N → w.cell? ⟨b, j, none⟩ = some v → (v = .nilFunc ∨ ∃ rb ob, v = cloV rb ob c) → ¬ bad ⟨b, j, none⟩)
    (h2 : ∀ rb R sv, c < rb → Cell5 w rb R sv → ∀ j, j < 5 → ¬ bad ⟨rb, j, none⟩) (h3 : ∀ ob a n cap, w.cell? ⟨ob, 0, none⟩ = some (.slice a n cap) → ¬ bad ⟨ob, 0, none⟩) :
    ∀ (s : List (Option Nd)) (ev : Value), s.length ≤ N → EnvIs W0 w c s ev → EnvIs W0 w' c s ev := by
  intro s
  induction s with
  | nil => intro ev _ h; exact h
  | cons x t ih =>
    intro ev hN h
    obtain ⟨b, cap, rfl, e1, e2, ht, hx⟩ := h
    simp only [List.length_cons] at hN
    refine ⟨b, cap, rfl, e1, e2, ih _ (by omega) ht, ?_⟩
    cases x with
    | none => exact hk _ _ hx (h1 _ _ _ (by omega) hx (Or.inl rfl))
    | some R =>
      obtain ⟨rb, ob, sv, ov, c0, c1, c2, c3, c4, c5, c6⟩ := hx
      obtain ⟨a, cp, rfl, _⟩ := c5.form
      have hr := h2 _ _ _ c6 c1
      obtain ⟨d0, d1, d2, d3, d4⟩ := c1
      exact ⟨rb, ob, sv, _, hk _ _ c0 (h1 _ _ _ (by omega) c0 (Or.inr ⟨_, _, rfl⟩)), ⟨hk _ _ d0 (hr 0 (by omega)), hk _ _ d1 (hr 1 (by omega)), hk _ _ d2 (hr 2 (by omega)), hk _ _ d3 (hr 3 (by omega)), hk _ _ d4 (hr 4 (by omega))⟩, c2, c3, hk _ _ c4 (h3 _ _ _ _ c4), ih _ (by omega) c5, c6⟩
theorem EnvIs.still {W0 w w' : World} {c : Nat} {s : List (Option Nd)} {ev : Value} (h : EnvIs W0 w c s ev) (hs : Still w w') : EnvIs W0 w' c s ev :=
  EnvIs.keep (fun _ => False) s.length (fun p v e _ => hs p v e) (fun _ _ _ _ _ _ h => h) (fun _ _ _ _ _ _ _ h => h) (fun _ _ _ _ _ h => h) s ev (Nat.le_refl _) h
theorem Ctr.cell1 {w : World} {c : Nat} {m : Int} (h : Ctr w c m) (j : Nat) (hj : 0 < j) : w.cell? ⟨c, j, none⟩ = none := by
  obtain ⟨t, h⟩ := h
  simp [World.cell?, h]
  omega
theorem EnvIs.only {W0 w w' : World} {c : Nat} {s : List (Option Nd)} {ev : Value} {m : Int} (h : EnvIs W0 w c s ev) (hc : Ctr w c m) (ho : Only c w w') : EnvIs W0 w' c s ev := by
  refine EnvIs.keep (fun p => p.block = c) s.length (fun p v e hb => ?_) (fun b j v _ e hv hb => ?_) (fun rb R sv _ hr j _ hb => ?_) (fun ob a n cap e hb => ?_) s ev (Nat.le_refl _) h
  · rw [World.cell?_of_block (w := w) (ho.block _ (World.block_lt_of_cell? _ _ e) hb)]
    exact e
  · simp only at hb
    subst hb
    cases j with
    | zero =>
      rw [hc.cell] at e
      rcases hv with rfl | ⟨_, _, rfl⟩ <;> simp [cloV] at e
    | succ j =>
      rw [hc.cell1 _ (by omega)] at e
      cases e
  · simp only at hb
    subst hb
    have := hr.2.1
    rw [hc.cell1 1 (by omega)] at this
    cases this
  · simp only at hb
    subst hb
    rw [hc.cell] at e
    simp at e

/-- The cells stand at another place. -/
theorem EnvIs.moved {W0 w : World} {c : Nat} (b g : Nat) : ∀ (s : List (Option Nd)) (cap cap' : Nat), EnvIs W0 w c s (.slice (some ⟨b, 0, none⟩) s.length cap) → (∀ i, i < s.length → w.cell? ⟨g, i, none⟩ = w.cell? ⟨b, i, none⟩) → s.length ≤ cap' → cap' ≤ maxLen → EnvIs W0 w c s (.slice (some ⟨g, 0, none⟩) s.length cap') := by
  intro s
  induction s with
  | nil => intro cap cap' _ _ h1 h2; exact ⟨_, _, rfl, h2, fun e => by cases e⟩
  | cons x t ih =>
    intro cap cap' h hc h1 h2
    obtain ⟨b', cp, e, e1, e2, ht, hx⟩ := h
    simp only [Value.slice.injEq, Option.some.injEq, Addr.mk.injEq, and_true] at e
    obtain ⟨rfl, _, rfl⟩ := e
    simp only [List.length_cons] at h1 hc
    refine ⟨g, cap', rfl, h1, h2, ih _ _ ht (fun i hi => hc i (by omega)) (by omega) h2, ?_⟩
    cases x with
    | none =>
      simp only at hx ⊢
      rw [hc _ (by omega)]
      exact hx
    | some R =>
      obtain ⟨rb, ob, sv, ov, c0, hrest⟩ := hx
      exact ⟨rb, ob, sv, ov, (hc _ (by omega)).trans c0, hrest⟩

/-- What the list stands for: each recursion's closed copy. -/
def vals : List (Option Nd) → List (Option Nd)
  | [] => []
  | none :: t => none :: vals t
  | some R :: t => some (cpN (vals t) R) :: vals t
theorem vals_len : ∀ s : List (Option Nd), (vals s).length = s.length
  | [] => rfl
  | none :: t => by simp [vals, vals_len t]
  | some R :: t => by simp [vals, vals_len t]
theorem vals_at : ∀ (p : List (Option Nd)) (x : Option Nd) (t : List (Option Nd)), ((vals (p ++ x :: t))[p.length]?).join = (match x with | none => none | some R => some (cpN (vals t) R))
  | [], x, t => by cases x <;> rfl
  | none :: p, x, t => by
    have := vals_at p x t
    simpa [vals] using this
  | some R :: p, x, t => by
    have := vals_at p x t
    simpa [vals] using this
/-- How many of the recursions are to be put in. -/
def puts : List (Option Nd) → Nat
  | [] => 0
  | none :: t => puts t
  | some _ :: t => puts t + 1
theorem puts_app : ∀ (p t : List (Option Nd)), puts (p ++ t) = puts p + puts t
  | [], t => by simp [puts]
  | none :: p, t => by simp only [List.cons_append, puts, puts_app p t]
  | some _ :: p, t => by simp only [List.cons_append, puts, puts_app p t]; omega
/-- Every recursion of the list is valid in its place, and is one. -/
def GoodS : List (Option Nd) → Prop
  | [] => True
  | none :: t => GoodS t
  | some R :: t => R.k = 3 ∧ wN R (t.length : Int) 0 = true ∧ t.length + hF R.kids ≤ 500 ∧ GoodS t
theorem GoodS.suffix : ∀ (p t : List (Option Nd)), GoodS (p ++ t) → GoodS t
  | [], _, h => h
  | none :: p, t, h => GoodS.suffix p t h
  | some _ :: p, t, h => GoodS.suffix p t h.2.2.2
/-- A list without kept recursions stands for valid closed nodes. -/
theorem vals_va : ∀ (s : List (Option Nd)), GoodS s → (∀ x, x ∈ s → x ≠ none) → VaS (vals s)
  | [], _, _ => by intro x hx; simp [vals] at hx
  | none :: t, _, hn => absurd rfl (hn none (by simp))
  | some R :: t, h, hn => by
    have ht := vals_va t h.2.2.2 (fun x hx => hn x (by simp [hx]))
    intro x hx
    rcases List.mem_cons.1 hx with rfl | hx
    · exact ⟨_, rfl, cpN_w _ ht R (by rw [vals_len]; exact h.2.1)⟩
    · exact ht x hx
end Go.Proofs.Ytgcefippeokmcaa
