/- Unfolding of trees: a closed node in place of a variable, and the copy below an environment. -/
import Derived.Test.YtfppglfajbmapaaDoorVal
namespace Go.Proofs.YtfppglfajbmapaaDoor
open Go.RowKit

/-- A node. -/
structure Nd where
  k : Int
  fr : ByteArray
  tg : ByteArray
  ix : Int
  kids : F

/-- The index behind a node of kind k. -/
def bump (k i : Int) : Int := if k = 3 ∧ 0 ≤ i then i + 1 else i
/-- U in place of the variables with index i. -/
def subF (U : Nd) : F → Int → F
  | .nil, _ => .nil
  | .cons lab k fr to ix kids rest, i =>
    if k = 4 ∧ ix = i then .cons lab U.k U.fr U.tg U.ix U.kids (subF U rest i)
    else .cons lab k fr to ix (subF U kids (bump k i)) (subF U rest i)
def subN (U : Nd) (g : Nd) (i : Int) : Nd := if g.k = 4 ∧ g.ix = i then U else ⟨g.k, g.fr, g.tg, g.ix, subF U g.kids (bump g.k i)⟩

/-- All variables' indices lie below b. -/
def scF : F → Int → Bool
  | .nil, _ => true
  | .cons _ k _ _ ix kids rest, b => (if k = 4 then decide (0 ≤ ix) && decide (ix < b) else true) && scF kids (if k = 3 then b + 1 else b) && scF rest b
def scN (g : Nd) (b : Int) : Bool := (if g.k = 4 then decide (0 ≤ g.ix) && decide (g.ix < b) else true) && scF g.kids (if g.k = 3 then b + 1 else b)

/-- No variable of the list has index i, if i lies outside its scope. -/
theorem sub_far (U : Nd) : ∀ (f : F) (b i : Int), scF f b = true → (b ≤ i ∨ i < 0) → 0 ≤ b → subF U f i = f := by
  intro f
  induction f with
  | nil => intro b i _ _ _; rfl
  | cons lab k fr to ix kids rest ihk ihr =>
    intro b i h hi hb
    simp only [scF, Bool.and_eq_true] at h
    obtain ⟨⟨h1, h2⟩, h3⟩ := h
    have hne : ¬ (k = 4 ∧ ix = i) := by
      rintro ⟨rfl, rfl⟩
      simp at h1
      omega
    simp only [subF]
    rw [if_neg hne, ihr b i h3 hi hb]
    rw [ihk (if k = 3 then b + 1 else b) (bump k i) h2 ?_ ?_]
    · unfold bump
      split <;> split <;> omega
    · split <;> omega
theorem subN_far (U : Nd) (g : Nd) (b i : Int) (h : scN g b = true) (hi : b ≤ i ∨ i < 0) (hb : 0 ≤ b) : subN U g i = g := by
  obtain ⟨k, fr, to, ix, kids⟩ := g
  simp only [scN, Bool.and_eq_true] at h
  obtain ⟨h1, h2⟩ := h
  unfold subN
  have hne : ¬ (k = 4 ∧ ix = i) := by
    rintro ⟨rfl, rfl⟩
    simp at h1
    omega
  simp only
  rw [if_neg hne, sub_far U kids (if k = 3 then b + 1 else b) (bump k i) h2 ?_ ?_]
  · unfold bump
    split <;> split <;> omega
  · split <;> omega

/-- The copy below an environment, the innermost recursion first. -/
def cpF : List (Option Nd) → F → F
  | _, .nil => .nil
  | s, .cons lab k fr to ix kids rest =>
    if k = 4 then
      match (s[ix.toNat]?).join with
      | some U => .cons lab U.k U.fr U.tg U.ix U.kids (cpF s rest)
      | none => .cons lab k fr to ix (cpF s kids) (cpF s rest)
    else .cons lab k fr to ix (cpF (if k = 3 then none :: s else s) kids) (cpF s rest)
def cpN (s : List (Option Nd)) (g : Nd) : Nd :=
  if g.k = 4 then
    match (s[g.ix.toNat]?).join with
    | some U => U
    | none => ⟨g.k, g.fr, g.tg, g.ix, cpF s g.kids⟩
  else ⟨g.k, g.fr, g.tg, g.ix, cpF (if g.k = 3 then none :: s else s) g.kids⟩

/-- Every node of the environment is closed. -/
def ClS (s : List (Option Nd)) : Prop := ∀ U, some U ∈ s → scN U 0 = true
/-- A list of j kept recursions. -/
def kept (j : Nat) : List (Option Nd) := List.replicate j none
theorem kept_succ (j : Nat) (s : List (Option Nd)) : none :: (kept j ++ s) = kept (j + 1) ++ s := rfl
theorem kept_get (j m : Nat) (h : m < j) (s : List (Option Nd)) : ((kept j ++ s)[m]?).join = none := by
  unfold kept
  rw [List.getElem?_append_left (by simpa using h), List.getElem?_replicate, if_pos h]
  rfl
theorem kept_at (j : Nat) (x : Option Nd) (s : List (Option Nd)) : ((kept j ++ x :: s)[j]?).join = x := by
  unfold kept
  rw [List.getElem?_append_right (by simp)]
  simp
theorem kept_past (j m : Nat) (h : j < m) (x y : Option Nd) (s : List (Option Nd)) : ((kept j ++ x :: s)[m]?).join = ((kept j ++ y :: s)[m]?).join := by
  unfold kept
  rw [List.getElem?_append_right (by simp; omega), List.getElem?_append_right (by simp; omega)]
  obtain ⟨n, hn⟩ : ∃ n, m - (List.replicate j (none : Option Nd)).length = n + 1 := ⟨m - j - 1, by simp; omega⟩
  rw [hn]
  rfl
theorem mem_of_join {s : List (Option Nd)} {m : Nat} {U : Nd} (h : (s[m]?).join = some U) : some U ∈ s := by
  cases hx : s[m]? with
  | none => rw [hx] at h; cases h
  | some x =>
    rw [hx] at h
    have hx2 : x = some U := h
    subst hx2
    exact List.mem_of_getElem? hx

/-- The step of the model's loop, in the copy's words. -/
theorem sub_cp (U : Nd) (s : List (Option Nd)) (hs : ClS s) : ∀ (f : F) (j : Nat) (b : Int), scF f b = true →
    subF U (cpF (kept j ++ none :: s) f) (j : Int) = cpF (kept j ++ some U :: s) f := by
  intro f
  induction f with
  | nil => intro j b _; rfl
  | cons lab k fr to ix kids rest ihk ihr =>
    intro j b h
    simp only [scF, Bool.and_eq_true] at h
    obtain ⟨⟨h1, h2⟩, h3⟩ := h
    have hr := ihr j b h3
    by_cases h4 : k = 4
    · subst h4
      simp only [if_pos, Bool.and_eq_true, decide_eq_true_eq] at h1
      obtain ⟨h0, _⟩ := h1
      simp only [cpF, if_pos]
      have hkk := ihk j _ h2
      rcases Nat.lt_trichotomy ix.toNat j with hlt | heq | hgt
      · rw [kept_get j _ hlt, kept_get j _ hlt]
        simp only [subF]
        rw [if_neg (by omega), hr]
        have : bump 4 (j : Int) = j := by unfold bump; simp
        rw [this, hkk]
      · rw [heq, kept_at, kept_at]
        simp only [subF]
        rw [if_pos (by refine ⟨by trivial, ?_⟩; omega), hr]
      · rw [kept_past j _ hgt none (some U)]
        cases hv : ((kept j ++ some U :: s)[ix.toNat]?).join with
        | none =>
          simp only [subF]
          rw [if_neg (by omega), hr]
          have : bump 4 (j : Int) = j := by unfold bump; simp
          rw [this, hkk]
        | some V =>
          have hm : some V ∈ s := by
            have hv' := hv
            unfold kept at hv'
            rw [List.getElem?_append_right (by simp; omega)] at hv'
            obtain ⟨n, hn⟩ : ∃ n, ix.toNat - (List.replicate j (none : Option Nd)).length = n + 1 := ⟨ix.toNat - j - 1, by simp; omega⟩
            rw [hn] at hv'
            exact mem_of_join hv'
          have hc := subN_far U V 0 (j : Int) (hs V hm) (Or.inl (by omega)) (by omega)
          unfold subN at hc
          simp only [subF]
          by_cases hq : V.k = 4 ∧ V.ix = j
          · have := hs V hm
            simp only [scN, hq.1, if_pos, Bool.and_eq_true, decide_eq_true_eq] at this
            omega
          · rw [if_neg hq] at hc ⊢
            rw [hr]
            have : subF U V.kids (bump V.k j) = V.kids := by
              have := congrArg Nd.kids hc
              simpa using this
            rw [this]
    · simp only [cpF, if_neg h4]
      simp only [subF]
      rw [if_neg (by omega), hr]
      congr 1
      by_cases h33 : k = 3
      · subst h33
        have := ihk (j + 1) (b + 1) (by simpa using h2)
        simp only [if_pos] at this ⊢
        rw [← kept_succ, ← kept_succ] at this
        rw [show bump 3 (j : Int) = ((j + 1 : Nat) : Int) by unfold bump; rw [if_pos ⟨rfl, by omega⟩]; omega]
        exact this
      · have := ihk j b (by rw [if_neg h33] at h2; exact h2)
        simp only [if_neg h33]
        rw [show bump k (j : Int) = j by unfold bump; rw [if_neg (by omega)]]
        exact this

/-- A copy is in scope. -/
theorem sc_mono : ∀ (f : F) (b c : Int), scF f b = true → b ≤ c → scF f c = true := by
  intro f
  induction f with
  | nil => intro b c _ _; rfl
  | cons lab k fr to ix kids rest ihk ihr =>
    intro b c h hbc
    simp only [scF, Bool.and_eq_true] at h ⊢
    obtain ⟨⟨h1, h2⟩, h3⟩ := h
    refine ⟨⟨?_, ihk _ _ h2 (by split <;> omega)⟩, ihr _ _ h3 hbc⟩
    split at h1
    · rename_i h4
      simp only [if_pos h4, Bool.and_eq_true, decide_eq_true_eq] at h1 ⊢
      omega
    · rename_i h4
      rw [if_neg h4]
theorem cp_sc (s : List (Option Nd)) (hs : ClS s) : ∀ (f : F) (j : Nat), scF f ((j + s.length : Nat) : Int) = true → (∀ x, x ∈ s → x ≠ none) → scF (cpF (kept j ++ s) f) (j : Int) = true := by
  intro f
  induction f with
  | nil => intro j _ _; rfl
  | cons lab k fr to ix kids rest ihk ihr =>
    intro j h hne
    simp only [scF, Bool.and_eq_true] at h
    obtain ⟨⟨h1, h2⟩, h3⟩ := h
    have hr := ihr j h3 hne
    by_cases h4 : k = 4
    · subst h4
      simp only [if_pos, Bool.and_eq_true, decide_eq_true_eq] at h1
      simp only [cpF, if_pos]
      have hk := ihk j (by simpa using h2) hne
      by_cases hlt : ix.toNat < j
      · rw [kept_get j _ hlt]
        simp only [scF, if_pos, Bool.and_eq_true, decide_eq_true_eq]
        exact ⟨⟨⟨h1.1, by omega⟩, by simpa using hk⟩, hr⟩
      · have hx : ∃ V, ((kept j ++ s)[ix.toNat]?).join = some V ∧ some V ∈ s := by
          unfold kept
          rw [List.getElem?_append_right (by simp; omega)]
          have hl : ix.toNat - (List.replicate j (none : Option Nd)).length < s.length := by simp; omega
          rw [List.getElem?_eq_getElem hl]
          have hm := List.getElem_mem hl
          cases hv : s[ix.toNat - (List.replicate j (none : Option Nd)).length] with
          | none => rw [hv] at hm; exact absurd rfl (hne _ hm)
          | some V => rw [hv] at hm; exact ⟨V, rfl, hm⟩
        obtain ⟨V, hv, hm⟩ := hx
        rw [hv]
        have hc := hs V hm
        simp only [scN, Bool.and_eq_true] at hc
        simp only [scF, Bool.and_eq_true]
        refine ⟨⟨?_, ?_⟩, hr⟩
        · have := hc.1
          split at this
          · simp only [Bool.and_eq_true, decide_eq_true_eq] at this
            omega
          · rename_i hn; rw [if_neg hn]
        · exact sc_mono _ _ _ hc.2 (by split <;> omega)
    · simp only [cpF, if_neg h4]
      simp only [scF, Bool.and_eq_true]
      refine ⟨⟨by rw [if_neg h4], ?_⟩, hr⟩
      by_cases h33 : k = 3
      · subst h33
        have := ihk (j + 1) (by rw [if_pos rfl] at h2; rw [show ((j + 1 + s.length : Nat) : Int) = ((j + s.length : Nat) : Int) + 1 by omega]; exact h2) hne
        simp only [if_pos] at this ⊢
        rw [← kept_succ] at this
        exact this
      · simp only [if_neg h33]
        exact ihk j (by rw [if_neg h33] at h2; exact h2) hne

/-- What is valid is in scope. -/
theorem sc_of_vld : ∀ (f : F) (b u d : Int), 0 ≤ u → vldF f b u d = true → scF f b = true := by
  intro f
  induction f with
  | nil => intro b u d _ _; rfl
  | cons lab k fr to ix kids rest ihk ihr =>
    intro b u d hu h
    simp only [vldF, Bool.and_eq_true] at h
    obtain ⟨hn, hr⟩ := h
    rw [nodeB_shape _ _ _ _ _ _ _ _ hu] at hn
    simp only [Bool.and_eq_true, decide_eq_true_eq] at hn
    obtain ⟨⟨_, hsh⟩, hk⟩ := hn
    simp only [scF, Bool.and_eq_true]
    refine ⟨?_, ihr b u d hu hr⟩
    by_cases h4 : k = 4
    · subst h4
      simp only [if_pos, Bool.and_eq_true, decide_eq_true_eq] at hk
      have hnil : kids = .nil := by
        simp [shapeB] at hsh
        exact nil_of_len hsh.2
      subst hnil
      simp only [if_pos, Bool.and_eq_true, decide_eq_true_eq, scF, and_true]
      omega
    · rw [if_neg h4]
      rw [if_neg h4] at hk
      refine ⟨rfl, ?_⟩
      by_cases h3 : k = 3
      · rw [if_pos h3] at hk ⊢
        exact ihk _ _ _ (by omega) hk
      · rw [if_neg h3] at hk ⊢
        by_cases h2 : k = 2
        · rw [if_pos h2] at hk
          exact ihk _ _ _ (by omega) hk
        · have h1 : k = 1 := by
            by_cases h1 : k = 1
            · exact h1
            · simp [shapeB, h1, h2, h3, h4] at hsh
          subst h1
          have hnil : kids = .nil := by
            simp [shapeB] at hsh
            exact nil_of_len hsh.2
          subst hnil
          rfl
end Go.Proofs.YtfppglfajbmapaaDoor
