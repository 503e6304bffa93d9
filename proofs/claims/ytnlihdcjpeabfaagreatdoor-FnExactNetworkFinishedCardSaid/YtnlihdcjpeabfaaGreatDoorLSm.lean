/- How large the unfolding of a small tree may get, if it is not high: the recursions at the root are reached by jumps to ever outer ones, and each jump costs levels. -/
import Derived.Test.YtnlihdcjpeabfaaGreatDoorLUv
namespace Go.Proofs.YtnlihdcjpeabfaaGreatDoor.Lo
open Go.RowKit

/-- Sums, from the front. -/
def sm : Nat → (Nat → Nat) → Nat
  | 0, _ => 0
  | n + 1, o => o 0 + sm n (fun v => o (v + 1))
theorem sm_le : ∀ (n : Nat) (a b : Nat → Nat), (∀ v, v < n → a v ≤ b v) → sm n a ≤ sm n b
  | 0, _, _, _ => Nat.le_refl _
  | n + 1, a, b, h => by
    have h0 := h 0 (by omega)
    have h1 := sm_le n (fun v => a (v + 1)) (fun v => b (v + 1)) (fun v hv => h (v + 1) (by omega))
    simp only [sm]
    omega
theorem sm_add : ∀ (n : Nat) (a b : Nat → Nat), sm n (fun v => a v + b v) = sm n a + sm n b
  | 0, _, _ => rfl
  | n + 1, a, b => by
    have h1 := sm_add n (fun v => a (v + 1)) (fun v => b (v + 1))
    simp only [sm]
    omega
theorem sm_zero : ∀ (n : Nat) (a : Nat → Nat), (∀ v, v < n → a v = 0) → sm n a = 0
  | 0, _, _ => rfl
  | n + 1, a, h => by
    have h0 := h 0 (by omega)
    have h1 := sm_zero n (fun v => a (v + 1)) (fun v hv => h (v + 1) (by omega))
    simp only [sm]
    omega
theorem sm_pick : ∀ (n v0 : Nat) (a : Nat → Nat), v0 < n → sm n (fun v => if v = v0 then a v else 0) = a v0
  | 0, v0, _, h => by omega
  | n + 1, 0, a, _ => by
    have h1 := sm_zero n (fun v => if v + 1 = 0 then a (v + 1) else 0) (fun v _ => if_neg (by omega))
    simp only [sm]
    rw [h1]
    simp
  | n + 1, v0 + 1, a, h => by
    have h1 := sm_pick n v0 (fun v => a (v + 1)) (by omega)
    simp only [sm]
    rw [if_neg (by omega), Nat.zero_add, ← h1]
    congr 1
    funext v
    by_cases hv : v = v0
    · rw [if_pos hv, if_pos (by omega)]
    · rw [if_neg hv, if_neg (by omega)]
theorem sm_mul (c : Nat) : ∀ (n : Nat) (a : Nat → Nat), sm n (fun v => c * a v) = c * sm n a
  | 0, _ => rfl
  | n + 1, a => by
    have h1 := sm_mul c n (fun v => a (v + 1))
    simp only [sm]
    rw [h1, Nat.mul_add]

/-- So many of n things. -/
def ch : Nat → Nat → Nat
  | _, 0 => 1
  | 0, _ + 1 => 0
  | n + 1, q + 1 => ch n (q + 1) + ch n q
theorem ch_zero (n : Nat) : ch n 0 = 1 := by cases n <;> rfl
theorem ch_mul : ∀ (n q : Nat), (q + 1) * ch n (q + 1) ≤ n * ch n q
  | 0, q => by simp [ch]
  | n + 1, 0 => by
    have h := ch_mul n 0
    rw [ch_zero] at h ⊢
    simp only [ch, ch_zero]
    omega
  | n + 1, q + 1 => by
    have h := ch_mul n (q + 1)
    have h2 := ch_mul n q
    simp only [ch]
    generalize ch n (q + 1 + 1) = x at h ⊢
    generalize ch n (q + 1) = y at h h2 ⊢
    generalize ch n q = z at h2 ⊢
    have e1 : (q + 1 + 1) * (x + y) = (q + 1 + 1) * x + (q + 1) * y + y := by
      rw [Nat.mul_add, Nat.add_mul (q + 1) 1 y]; omega
    have e2 : (n + 1) * (y + z) = n * y + y + (n * z + z) := by
      rw [Nat.mul_add, Nat.add_mul n 1 y, Nat.add_mul n 1 z]; omega
    rw [e1, e2]
    omega

/-- Fewer than r of n things. -/
def zz : Nat → Nat → Nat
  | 0, _ => 0
  | r + 1, n => zz r n + ch n r
theorem zz_at_zero : ∀ r, zz (r + 1) 0 = 1
  | 0 => rfl
  | r + 1 => by
    have := zz_at_zero r
    show zz (r + 1) 0 + ch 0 (r + 1) = 1
    rw [this]; rfl
theorem zz_pascal : ∀ (r n : Nat), zz (r + 1) (n + 1) = zz (r + 1) n + zz r n
  | 0, n => by
    show zz 0 (n + 1) + ch (n + 1) 0 = zz 0 n + ch n 0 + zz 0 n
    rw [ch_zero, ch_zero]; rfl
  | r + 1, n => by
    have := zz_pascal r n
    show zz (r + 1) (n + 1) + ch (n + 1) (r + 1) = zz (r + 1) n + ch n (r + 1) + (zz r n + ch n r)
    rw [this]
    simp only [ch]
    omega
theorem zz_mono1 (r n : Nat) : zz r n ≤ zz r (n + 1) := by
  cases r with
  | zero => exact Nat.le_refl _
  | succ r => rw [zz_pascal]; omega
theorem zz_mono (r n : Nat) : ∀ d, zz r n ≤ zz r (n + d)
  | 0 => Nat.le_refl _
  | d + 1 => Nat.le_trans (zz_mono r n d) (zz_mono1 r (n + d))
theorem zz_step (r n : Nat) : ∀ o, zz (r + 1) n + o * zz r n ≤ zz (r + 1) (o + n)
  | 0 => by simp
  | o + 1 => by
    have h := zz_step r n o
    have h2 := zz_mono r n o
    rw [show o + 1 + n = (o + n) + 1 by omega, zz_pascal, Nat.add_mul, Nat.add_comm o n]
    rw [Nat.add_comm o n] at h
    omega
theorem zz8 (n : Nat) (h : n ≤ 400) : zz 8 n ≤ 400000000000000 := by
  have hs : ∀ q, (q + 1) * ch n (q + 1) ≤ 400 * ch n q := fun q => Nat.le_trans (ch_mul n q) (Nat.mul_le_mul_right _ h)
  have h0 := ch_zero n
  have h1 := hs 0
  have h2 := hs 1
  have h3 := hs 2
  have h4 := hs 3
  have h5 := hs 4
  have h6 := hs 5
  have h7 := hs 6
  simp only [Nat.reduceAdd] at h1 h2 h3 h4 h5 h6 h7
  simp only [zz]
  omega

/-- The sum behind an index. -/
def tl : Nat → (Nat → Nat) → Nat → Nat
  | 0, _, _ => 0
  | n + 1, o, 0 => sm n (fun v => o (v + 1))
  | n + 1, o, v + 1 => tl n (fun v => o (v + 1)) v
theorem abel (r : Nat) : ∀ (n : Nat) (o : Nat → Nat), sm n (fun v => o v * zz r (tl n o v)) + 1 ≤ zz (r + 1) (sm n o)
  | 0, _ => by simp only [sm]; rw [zz_at_zero]; omega
  | n + 1, o => by
    have h := abel r n (fun v => o (v + 1))
    have h2 := zz_step r (sm n (fun v => o (v + 1))) (o 0)
    simp only [sm, tl]
    omega

/-- Levels for r jumps from below j recursions at the root. -/
def th : Nat → Nat → Nat
  | 0, j => j
  | r + 1, j => j + 1 + th r (j + 1)
theorem th_mono : ∀ (r j d : Nat), th r j ≤ th r (j + d)
  | 0, j, d => by simp only [th]; omega
  | r + 1, j, d => by
    have := th_mono r (j + 1) d
    simp only [th]
    rw [show j + d + 1 = j + 1 + d by omega]
    omega
theorem th8 (j : Nat) : 40 ≤ th 8 j := by
  simp only [th]
  omega

/-- The variables with index v. -/
def occ : F → Nat → Nat
  | .nil, _ => 0
  | .cons _ k _ ix kids rest, v => (if k = 5 then (if ix.toNat = v then 1 else 0) else if k = 4 then occ kids (v + 1) else occ kids v) + occ rest v
def occN (g : Nd) (v : Nat) : Nat := if g.k = 5 then (if g.ix.toNat = v then 1 else 0) else if g.k = 4 then occ g.kids (v + 1) else occ g.kids v
theorem sm_one (n v0 : Nat) (j : Nat) : sm n (fun v => if v0 = j + v then 1 else 0) ≤ 1 := by
  by_cases h : j ≤ v0 ∧ v0 - j < n
  · have := sm_pick n (v0 - j) (fun _ => 1) h.2
    refine Nat.le_trans (sm_le n _ (fun v => if v = v0 - j then 1 else 0) (fun v _ => ?_)) (Nat.le_of_eq this)
    show (if v0 = j + v then 1 else 0) ≤ (if v = v0 - j then 1 else 0)
    by_cases e : v0 = j + v
    · rw [if_pos e, if_pos (by omega)]
      exact Nat.le_refl _
    · rw [if_neg e]
      exact Nat.zero_le _
  · rw [sm_zero n _ (fun v hv => if_neg (by omega))]
    omega
theorem occ_sum : ∀ (f : F) (n j : Nat), sm n (fun v => occ f (j + v)) ≤ f.sz := by
  intro f
  induction f with
  | nil => intro n j; exact Nat.le_of_eq (sm_zero n _ (fun _ _ => rfl))
  | cons lab k fr ix kids rest ihk ihr =>
    intro n j
    have hr := ihr n j
    have hk := ihk n j
    have hk4 := ihk n (j + 1)
    simp only [occ]
    rw [sm_add]
    simp only [F.sz]
    by_cases h5 : k = 5
    · simp only [if_pos h5]
      have := sm_one n ix.toNat j
      omega
    · simp only [if_neg h5]
      by_cases h4 : k = 4
      · simp only [if_pos h4]
        have e : (fun v => occ kids (j + v + 1)) = fun v => occ kids (j + 1 + v) := by
          funext v; rw [show j + v + 1 = j + 1 + v by omega]
        rw [e]
        omega
      · simp only [if_neg h4]
        omega
theorem occN_sum (g : Nd) (n : Nat) : sm n (occN g) ≤ g.kids.sz + 1 := by
  have := occ_sum (.cons ⟨#[]⟩ g.k g.fr g.ix g.kids .nil) n 0
  simp only [occ, F.sz, Nat.zero_add, Nat.add_zero] at this
  exact this

/-- The size of what stands at an index. -/
def szO (s : List (Option Nd)) (v : Nat) : Nat := match (s[v]?).join with | some U => U.kids.sz | none => 0
/-- The size of a copy. -/
theorem cp_sz (s : List (Option Nd)) (hs : VaS s) : ∀ (f : F) (j : Nat) (u : Int), 0 ≤ u → wF f ((j + s.length : Nat) : Int) u = true →
    (cpF (kept j ++ s) f).sz ≤ f.sz + sm s.length (fun v => occ f (j + v) * szO s v) := by
  intro f
  induction f with
  | nil => intro j u _ _; simp only [cpF, F.sz]; omega
  | cons lab k fr ix kids rest ihk ihr =>
    intro j u hu h
    simp only [wF, Bool.and_eq_true] at h
    obtain ⟨⟨h1, h2⟩, h3⟩ := h
    have hr := ihr j u hu h3
    have hsum : ∀ x : Nat → Nat, sm s.length (fun v => (x v + occ rest (j + v)) * szO s v) = sm s.length (fun v => x v * szO s v) + sm s.length (fun v => occ rest (j + v) * szO s v) := by
      intro x
      rw [← sm_add]
      congr 1
      funext v
      rw [Nat.add_mul]
    rw [cpF_cons]
    simp only [occ, F.sz]
    rw [hsum]
    by_cases h5 : k = 5
    · subst h5
      have hn := shape_leaf h1 (by decide) (by decide)
      subst hn
      simp only [if_true, Bool.and_eq_true, decide_eq_true_eq] at h2 ⊢
      have hcp : (cpN (kept j ++ s) ⟨5, fr, ix, .nil⟩).kids.sz ≤ sm s.length (fun v => (if ix.toNat = j + v then 1 else 0) * szO s v) := by
        simp only [cpN, if_true]
        by_cases hlt : ix.toNat < j
        · rw [kept_get j _ hlt]
          simp only [cpF, F.sz]
          exact Nat.zero_le _
        · have hx : ((kept j ++ s)[ix.toNat]?).join = (s[ix.toNat - j]?).join := by
            unfold kept
            rw [List.getElem?_append_right (by simp; omega)]
            simp
          have hlen : ix.toNat - j < s.length := by omega
          have hp := sm_pick s.length (ix.toNat - j) (szO s) hlen
          have he : sm s.length (fun v => (if ix.toNat = j + v then 1 else 0) * szO s v) = szO s (ix.toNat - j) := by
            rw [← hp]
            congr 1
            funext v
            by_cases e : ix.toNat = j + v
            · rw [if_pos e, if_pos (by omega), Nat.one_mul]
            · rw [if_neg e, if_neg (by omega), Nat.zero_mul]
          rw [he, hx]
          obtain ⟨U, eU, _⟩ := hs.join hlen
          unfold szO
          rw [eU]
          exact Nat.le_refl _
      omega
    · simp only [if_neg h5] at h2 ⊢
      simp only [cpN, if_neg h5]
      by_cases h4 : k = 4
      · simp only [if_pos h4] at h2 ⊢
        have hk := ihk (j + 1) (u + 1) (by omega) (by rw [show ((j + 1 + s.length : Nat) : Int) = ((j + s.length : Nat) : Int) + 1 by omega]; exact h2)
        rw [kept_succ]
        have e : (fun v => occ kids (j + v + 1) * szO s v) = fun v => occ kids (j + 1 + v) * szO s v := by
          funext v; rw [show j + v + 1 = j + 1 + v by omega]
        rw [e]
        omega
      · simp only [if_neg h4] at h2 ⊢
        by_cases h23 : k = 2 ∨ k = 3
        · rw [if_pos h23] at h2
          have hk := ihk j 0 (by omega) h2
          omega
        · have hn := shape_leaf h1 h23 h4
          subst hn
          simp only [cpF, F.sz]
          omega
theorem cpN_sz (s : List (Option Nd)) (hs : VaS s) (g : Nd) (u : Int) (hu : 0 ≤ u) (h : wN g (s.length : Int) u = true) :
    (cpN s g).kids.sz ≤ g.kids.sz + sm s.length (fun v => occN g v * szO s v) := by
  obtain ⟨k, fr, ix, kids⟩ := g
  have h9 := cp_sz s hs (.cons ⟨#[]⟩ k fr ix kids .nil) 0 u hu (by simp only [wF, Bool.and_true, Nat.zero_add]; exact h)
  rw [cpF_cons] at h9
  simp only [kept, List.replicate_zero, List.nil_append, cpF, F.sz, occ, Nat.zero_add, Nat.add_zero] at h9
  have e : (fun v => (if k = 5 then (if ix.toNat = v then 1 else 0) else if k = 4 then occ kids (v + 1) else occ kids v) * szO s v) = fun v => occN ⟨k, fr, ix, kids⟩ v * szO s v := by
    funext v; rfl
  rw [e] at h9
  show (cpN s ⟨k, fr, ix, kids⟩).kids.sz ≤ kids.sz + sm s.length (fun v => occN ⟨k, fr, ix, kids⟩ v * szO s v)
  omega

/-- The recursions at the root. -/
def rk : F → Nat
  | .nil => 0
  | .cons _ k _ _ kids _ => if k = 4 then 1 + rk kids else 0
def rkN (g : Nd) : Nat := if g.k = 4 then 1 + rk g.kids else 0
/-- What stands for a variable lies in the copy. -/
theorem cp_in (s : List (Option Nd)) {v : Nat} {U : Nd} (hU : (s[v]?).join = some U) : ∀ (f : F) (j : Nat), 0 < occ f (j + v) → hN U ≤ hF (cpF (kept j ++ s) f) := by
  intro f
  induction f with
  | nil => intro j h; simp [occ] at h
  | cons lab k fr ix kids rest ihk ihr =>
    intro j h
    simp only [occ] at h
    rw [cpF_cons]
    simp only [hF]
    by_cases hr : 0 < occ rest (j + v)
    · have := ihr j hr
      omega
    · by_cases h5 : k = 5
      · rw [if_pos h5] at h
        by_cases e : ix.toNat = j + v
        · have hx : ((kept j ++ s)[ix.toNat]?).join = some U := by
            rw [e]
            unfold kept
            rw [List.getElem?_append_right (by simp)]
            simpa using hU
          simp only [cpN, if_pos h5]
          rw [hx]
          simp only [hN]
          omega
        · rw [if_neg e] at h
          omega
      · rw [if_neg h5] at h
        simp only [cpN, if_neg h5]
        by_cases h4 : k = 4
        · rw [if_pos h4] at h
          simp only [if_pos h4]
          rw [kept_succ]
          have := ihk (j + 1) (by rw [show j + 1 + v = j + v + 1 by omega]; omega)
          omega
        · rw [if_neg h4] at h
          simp only [if_neg h4]
          have := ihk j (by omega)
          omega
/-- .. below all recursions at the root and the action behind them. -/
theorem cp_deep (s : List (Option Nd)) {v : Nat} {U : Nd} (hU : (s[v]?).join = some U) : ∀ (f : F) (j : Nat) (b u : Int), f.len ≤ 1 → wF f b u = true → ((j : Int) + v < u) → 0 < occ f (j + v) → rk f + 1 + hN U ≤ hF (cpF (kept j ++ s) f) := by
  intro f
  induction f with
  | nil => intro j b u _ _ _ h; simp [occ] at h
  | cons lab k fr ix kids rest ihk _ =>
    intro j b u hlen hw hju h
    have hrn : rest = .nil := nil_of_len (by simp only [F.len] at hlen; omega)
    subst hrn
    simp only [wF, Bool.and_eq_true, Bool.and_true] at hw
    obtain ⟨h1, h2⟩ := hw
    simp only [occ, Nat.add_zero] at h
    rw [cpF_cons]
    simp only [hF, rk]
    by_cases h5 : k = 5
    · exfalso
      rw [if_pos h5] at h h2
      simp only [Bool.and_eq_true, decide_eq_true_eq] at h2
      by_cases e : ix.toNat = j + v
      · omega
      · rw [if_neg e] at h
        omega
    · rw [if_neg h5] at h h2
      simp only [cpN, if_neg h5]
      by_cases h4 : k = 4
      · rw [if_pos h4] at h h2
        simp only [if_pos h4]
        rw [kept_succ]
        have hl : kids.len ≤ 1 := by
          subst h4
          simp [shapeB] at h1
          omega
        have := ihk (j + 1) (b + 1) (u + 1) hl h2 (by omega) (by rw [show j + 1 + v = j + v + 1 by omega]; omega)
        omega
      · rw [if_neg h4] at h
        simp only [if_neg h4]
        have := cp_in s hU kids j (by omega)
        omega
theorem rec_ne {fr : ByteArray} {ix : Int} {kids : F} (h : shapeB 4 fr ix kids = true) : kids ≠ .nil := by
  rintro rfl
  simp [shapeB, F.len] at h
theorem rk_h : ∀ (f : F) (b u : Int) (s : List (Option Nd)), wF f b u = true → f ≠ .nil → rk f + 1 ≤ hF (cpF s f) := by
  intro f
  induction f with
  | nil => intro b u s _ h; exact absurd rfl h
  | cons lab k fr ix kids rest ihk _ =>
    intro b u s hw _
    simp only [wF, Bool.and_eq_true] at hw
    obtain ⟨⟨h1, h2⟩, -⟩ := hw
    rw [cpF_cons]
    simp only [rk, hF]
    by_cases h4 : k = 4
    · have h5 : ¬ k = 5 := by omega
      rw [if_neg h5, if_pos h4] at h2
      have hne : kids ≠ .nil := by
        rw [h4] at h1
        exact rec_ne h1
      simp only [if_pos h4, cpN, if_neg h5]
      have := ihk (b + 1) (u + 1) (none :: s) h2 hne
      omega
    · rw [if_neg h4]; omega
theorem rkN_h (g : Nd) (b u : Int) (s : List (Option Nd)) (hw : wN g b u = true) : rkN g + 1 ≤ hN (cpN s g) := by
  obtain ⟨k, fr, ix, kids⟩ := g
  have h9 := rk_h (.cons ⟨#[]⟩ k fr ix kids .nil) b u s (by simp only [wF, Bool.and_true]; exact hw) (by simp)
  rw [cpF_cons] at h9
  simp only [cpF, hF, rk, Nat.max_zero] at h9
  show (if k = 4 then 1 + rk kids else 0) + 1 ≤ 1 + hF (cpN s ⟨k, fr, ix, kids⟩).kids
  omega
theorem cpN_deep (s : List (Option Nd)) {v : Nat} {U : Nd} (hU : (s[v]?).join = some U) (g : Nd) (b u : Int) (hw : wN g b u = true) (hv : (v : Int) < u) (h : 0 < occN g v) : rkN g + 1 + hN U ≤ hN (cpN s g) := by
  obtain ⟨k, fr, ix, kids⟩ := g
  have h9 := cp_deep s hU (.cons ⟨#[]⟩ k fr ix kids .nil) 0 b u (by simp [F.len]) (by simp only [wF, Bool.and_true]; exact hw) (by omega) (by simp only [occ, Nat.zero_add, Nat.add_zero]; exact h)
  rw [cpF_cons] at h9
  simp only [kept, List.replicate_zero, List.nil_append, cpF, hF, rk, Nat.max_zero] at h9
  show (if k = 4 then 1 + rk kids else 0) + 1 + hN U ≤ 1 + hF (cpN s ⟨k, fr, ix, kids⟩).kids
  omega

/-- What is known of the nodes of the environment. -/
def SzInv (s : List (Option Nd)) (g : Nd) : Prop :=
  ∀ v U, (s[v]?).join = some U → ∀ r, hN U ≤ th r (rkN g + 1 + v) → U.kids.sz + 1 ≤ 400 * zz r (tl s.length (occN g) v)

theorem szv_node {s : List (Option Nd)} {g : Nd} (hs : VaS s) (hi : SzInv s g) (hw : wN g (s.length : Int) (s.length : Int) = true) (hg : g.kids.sz + 1 ≤ 400) :
    ∀ r, hN (cpN s g) ≤ th r (rkN g) → (cpN s g).kids.sz + 1 ≤ 400 * zz r (sm s.length (occN g)) := by
  intro r hr
  cases r with
  | zero =>
    have := rkN_h g _ _ s hw
    simp only [th] at hr
    omega
  | succ r =>
    have h1 := cpN_sz s hs g _ (by omega) hw
    have h2 : sm s.length (fun v => occN g v * szO s v) ≤ sm s.length (fun v => 400 * (occN g v * zz r (tl s.length (occN g) v))) := by
      refine sm_le _ _ _ (fun v hv => ?_)
      by_cases ho : 0 < occN g v
      · obtain ⟨U, eU, _⟩ := hs.join hv
        have hd := cpN_deep s eU g _ _ hw (by omega) ho
        simp only [th] at hr
        have hm := th_mono r (rkN g + 1) v
        have := hi v U eU r (by omega)
        have e : szO s v = U.kids.sz := by unfold szO; rw [eU]
        rw [e, Nat.mul_left_comm]
        exact Nat.mul_le_mul_left _ (by omega)
      · rw [show occN g v = 0 by omega]
        simp
    rw [sm_mul 400] at h2
    have h3 := abel r s.length (occN g)
    have h4 : 400 * (sm s.length (fun v => occN g v * zz r (tl s.length (occN g) v)) + 1) ≤ 400 * zz (r + 1) (sm s.length (occN g)) := Nat.mul_le_mul_left _ h3
    omega

theorem szv_step {s : List (Option Nd)} {g : Nd} (hs : VaS s) (hi : SzInv s g) (hw : wN g (s.length : Int) (s.length : Int) = true) (hg : g.kids.sz + 1 ≤ 400) (h4 : g.k = 4)
    {lab fr : ByteArray} {k ix : Int} {kids : F} (hk : g.kids = .cons lab k fr ix kids .nil) : SzInv (some (cpN s g) :: s) ⟨k, fr, ix, kids⟩ := by
  have hocc : ∀ v, occN ⟨k, fr, ix, kids⟩ (v + 1) = occN g v := by
    intro v
    unfold occN
    rw [if_neg (show ¬ g.k = 5 by omega), if_pos h4, hk]
    simp only [occ, Nat.add_zero]
  have hrk : rkN g = 1 + rkN ⟨k, fr, ix, kids⟩ := by
    unfold rkN
    rw [if_pos h4, hk]
    simp only [rk]
  have hfun : (fun v => occN ⟨k, fr, ix, kids⟩ (v + 1)) = occN g := funext hocc
  intro v U hU r hr
  cases v with
  | zero =>
    have e : cpN s g = U := by simpa using hU
    subst e
    have := szv_node hs hi hw hg r (by rw [hrk, Nat.add_comm]; exact hr)
    simp only [List.length_cons, tl]
    rw [hfun]
    exact this
  | succ v =>
    have hU' : (s[v]?).join = some U := by simpa using hU
    have := hi v U hU' r (by rw [hrk]; rw [show 1 + rkN ⟨k, fr, ix, kids⟩ + 1 + v = rkN ⟨k, fr, ix, kids⟩ + 1 + (v + 1) by omega]; exact hr)
    simp only [List.length_cons, tl]
    rw [hfun]
    exact this

theorem unfN_sz : ∀ (n : Nat) (s : List (Option Nd)) (g : Nd), VaS s → SzInv s g → wN g (s.length : Int) (s.length : Int) = true → g.kids.sz + 1 ≤ 400 →
    hN (unfN n s g) ≤ 40 → (unfN n s g).kids.sz + 1 ≤ 160000000000000000 := by
  have key : ∀ (s : List (Option Nd)) (g : Nd), VaS s → SzInv s g → wN g (s.length : Int) (s.length : Int) = true → g.kids.sz + 1 ≤ 400 →
      hN (cpN s g) ≤ 40 → (cpN s g).kids.sz + 1 ≤ 160000000000000000 := by
    intro s g hs hi hw hg hh
    have h1 := szv_node hs hi hw hg 8 (Nat.le_trans hh (th8 _))
    have h2 := occN_sum g s.length
    have h3 := zz8 (sm s.length (occN g)) (by omega)
    omega
  intro n
  induction n with
  | zero => intro s g hs hi hw hg hh; exact key s g hs hi hw hg hh
  | succ n ih =>
    intro s g hs hi hw hg hh
    unfold unfN at hh ⊢
    by_cases h3 : g.k = 4
    · rw [if_pos h3] at hh ⊢
      cases hk : g.kids with
      | nil => rw [hk] at hh; exact key s g hs hi hw hg hh
      | cons lab k fr ix kids rest =>
        rw [hk] at hh
        simp only at hh ⊢
        have hw0 := hw
        unfold wN at hw
        simp only [Bool.and_eq_true] at hw
        have hrn : rest = .nil := by
          have h1 := hw.1
          rw [h3, hk] at h1
          simp [shapeB, F.len] at h1
          exact nil_of_len (by omega)
        subst hrn
        refine ih _ _ ?_ (szv_step hs hi hw0 hg h3 hk) ?_ ?_ hh
        · intro x hx
          rcases List.mem_cons.1 hx with rfl | hx
          · exact ⟨_, rfl, cpN_w s hs g (wN_u _ _ _ _ hw0 (by omega))⟩
          · exact hs x hx
        · have h2 := hw.2
          rw [if_neg (by omega), if_pos h3, hk] at h2
          simp only [wF, Bool.and_eq_true] at h2
          unfold wN
          simp only [Bool.and_eq_true]
          rw [show (((some (cpN s g) :: s).length : Nat) : Int) = (s.length : Int) + 1 by simp]
          exact h2.1
        · rw [hk] at hg
          simp only [F.sz] at hg
          show kids.sz + 1 ≤ 400
          omega
    · rw [if_neg h3] at hh ⊢
      exact key s g hs hi hw hg hh
theorem unf_sz (g : Nd) (hw : wN g 0 0 = true) (hg : g.kids.sz + 1 ≤ 400) (hh : hN (unf g) ≤ 40) : (unf g).kids.sz + 1 ≤ 160000000000000000 := by
  refine unfN_sz _ [] g (fun x hx => by simp at hx) (fun v U hU => by simp at hU) (by simpa using hw) hg hh
end Go.Proofs.YtnlihdcjpeabfaaGreatDoor.Lo
