/- LSm, LSv, LLk, LLs, LIx, LKi, LMw, Aca, Bk, LSz, Mz, LTo, Mo, Acb -/
import Derived.Test.YtgcefippeokmcabGreatDoorG00
import Derived.BigQuiet
import Derived.Deep.QuietTactic
import Derived.Laws.AppendOwn
import Derived.Test.YtgcefippeokmcabGreatDoorRows
import Derived.WalkKit
import Derived.WalkSpells
import Derived.WalkLawsBesides
import Derived.StillTactics
import Derived.OwnWalk
import Derived.Laws.Pointers
import Derived.Deep.RegionHeld3
import Derived.Deep.AppendLies
import Derived.Deep.RegionLawGrows
import Derived.LaidEqlPtr
import Derived.Laws.Tables
import Derived.Laws.Rows
import Derived.Laws.CopyOwn
import Derived.StillTailTactics
/- How large the unfolding of a small tree may get, if it is not high: the recursions at the root are reached by jumps to ever outer ones, and each jump costs levels. -/
namespace Go.Proofs.YtgcefippeokmcabGreatDoor.Lo
open Go.RowKit

/-- Sums, from the front. -/
def sm : Nat → (Nat → Nat) → Nat
  | 0, _ => 0
  | n + 1, o => o 0 + sm n (fun v => o (v + 1))
theorem sm_le : ∀ (n : Nat) (a b : Nat → Nat), (∀ v, v < n → a v ≤ b v) → sm n a ≤ sm n b
  | 0, _, _, _ => Nat.le_refl _
  | n + 1, a, b, h => by
    have h0 := h 0 (by omega)
    have h1 := sm_le n (fun v => a (v + 1)) (fun v => b (v + 1)) (fun v hv => h (v + 1) (by omega))
    simp only [sm]
    omega
theorem sm_add : ∀ (n : Nat) (a b : Nat → Nat), sm n (fun v => a v + b v) = sm n a + sm n b
  | 0, _, _ => rfl
  | n + 1, a, b => by
    have h1 := sm_add n (fun v => a (v + 1)) (fun v => b (v + 1))
    simp only [sm]
    omega
theorem sm_zero : ∀ (n : Nat) (a : Nat → Nat), (∀ v, v < n → a v = 0) → sm n a = 0
  | 0, _, _ => rfl
  | n + 1, a, h => by
    have h0 := h 0 (by omega)
    have h1 := sm_zero n (fun v => a (v + 1)) (fun v hv => h (v + 1) (by omega))
    simp only [sm]
    omega
theorem sm_pick : ∀ (n v0 : Nat) (a : Nat → Nat), v0 < n → sm n (fun v => if v = v0 then a v else 0) = a v0
  | 0, v0, _, h => by omega
  | n + 1, 0, a, _ => by
    have h1 := sm_zero n (fun v => if v + 1 = 0 then a (v + 1) else 0) (fun v _ => if_neg (by omega))
    simp only [sm]
    rw [h1]
    simp
  | n + 1, v0 + 1, a, h => by
    have h1 := sm_pick n v0 (fun v => a (v + 1)) (by omega)
    simp only [sm]
    rw [if_neg (by omega), Nat.zero_add, ← h1]
    congr 1
    funext v
    by_cases hv : v = v0
    · rw [if_pos hv, if_pos (by omega)]
    · rw [if_neg hv, if_neg (by omega)]
theorem sm_mul (c : Nat) : ∀ (n : Nat) (a : Nat → Nat), sm n (fun v => c * a v) = c * sm n a
  | 0, _ => rfl
  | n + 1, a => by
    have h1 := sm_mul c n (fun v => a (v + 1))
    simp only [sm]
    rw [h1, Nat.mul_add]

/-- So many of n things. -/
def ch : Nat → Nat → Nat
  | _, 0 => 1
  | 0, _ + 1 => 0
  | n + 1, q + 1 => ch n (q + 1) + ch n q
theorem ch_zero (n : Nat) : ch n 0 = 1 := by cases n <;> rfl
theorem ch_mul : ∀ (n q : Nat), (q + 1) * ch n (q + 1) ≤ n * ch n q
  | 0, q => by simp [ch]
  | n + 1, 0 => by
    have h := ch_mul n 0
    rw [ch_zero] at h ⊢
    simp only [ch, ch_zero]
    omega
  | n + 1, q + 1 => by
    have h := ch_mul n (q + 1)
    have h2 := ch_mul n q
    simp only [ch]
    generalize ch n (q + 1 + 1) = x at h ⊢
    generalize ch n (q + 1) = y at h h2 ⊢
    generalize ch n q = z at h2 ⊢
    have e1 : (q + 1 + 1) * (x + y) = (q + 1 + 1) * x + (q + 1) * y + y := by
      rw [Nat.mul_add, Nat.add_mul (q + 1) 1 y]; omega
    have e2 : (n + 1) * (y + z) = n * y + y + (n * z + z) := by
      rw [Nat.mul_add, Nat.add_mul n 1 y, Nat.add_mul n 1 z]; omega
    rw [e1, e2]
    omega

/-- Fewer than r of n things. -/
def zz : Nat → Nat → Nat
  | 0, _ => 0
  | r + 1, n => zz r n + ch n r
theorem zz_at_zero : ∀ r, zz (r + 1) 0 = 1
  | 0 => rfl
  | r + 1 => by
    have := zz_at_zero r
    show zz (r + 1) 0 + ch 0 (r + 1) = 1
    rw [this]; rfl
theorem zz_pascal : ∀ (r n : Nat), zz (r + 1) (n + 1) = zz (r + 1) n + zz r n
  | 0, n => by
    show zz 0 (n + 1) + ch (n + 1) 0 = zz 0 n + ch n 0 + zz 0 n
    rw [ch_zero, ch_zero]; rfl
  | r + 1, n => by
    have := zz_pascal r n
    show zz (r + 1) (n + 1) + ch (n + 1) (r + 1) = zz (r + 1) n + ch n (r + 1) + (zz r n + ch n r)
    rw [this]
    simp only [ch]
    omega
theorem zz_mono1 (r n : Nat) : zz r n ≤ zz r (n + 1) := by
  cases r with
  | zero => exact Nat.le_refl _
  | succ r => rw [zz_pascal]; omega
theorem zz_mono (r n : Nat) : ∀ d, zz r n ≤ zz r (n + d)
  | 0 => Nat.le_refl _
  | d + 1 => Nat.le_trans (zz_mono r n d) (zz_mono1 r (n + d))
theorem zz_step (r n : Nat) : ∀ o, zz (r + 1) n + o * zz r n ≤ zz (r + 1) (o + n)
  | 0 => by simp
  | o + 1 => by
    have h := zz_step r n o
    have h2 := zz_mono r n o
    rw [show o + 1 + n = (o + n) + 1 by omega, zz_pascal, Nat.add_mul, Nat.add_comm o n]
    rw [Nat.add_comm o n] at h
    omega
theorem zz8 (n : Nat) (h : n ≤ 400) : zz 8 n ≤ 400000000000000 := by
  have hs : ∀ q, (q + 1) * ch n (q + 1) ≤ 400 * ch n q := fun q => Nat.le_trans (ch_mul n q) (Nat.mul_le_mul_right _ h)
  have h0 := ch_zero n
  have h1 := hs 0
  have h2 := hs 1
  have h3 := hs 2
  have h4 := hs 3
  have h5 := hs 4
  have h6 := hs 5
  have h7 := hs 6
  simp only [Nat.reduceAdd] at h1 h2 h3 h4 h5 h6 h7
  simp only [zz]
  omega

/-- The sum behind an index. -/
def tl : Nat → (Nat → Nat) → Nat → Nat
  | 0, _, _ => 0
  | n + 1, o, 0 => sm n (fun v => o (v + 1))
  | n + 1, o, v + 1 => tl n (fun v => o (v + 1)) v
theorem abel (r : Nat) : ∀ (n : Nat) (o : Nat → Nat), sm n (fun v => o v * zz r (tl n o v)) + 1 ≤ zz (r + 1) (sm n o)
  | 0, _ => by simp only [sm]; rw [zz_at_zero]; omega
  | n + 1, o => by
    have h := abel r n (fun v => o (v + 1))
    have h2 := zz_step r (sm n (fun v => o (v + 1))) (o 0)
    simp only [sm, tl]
    omega

/-- Levels for r jumps from below j recursions at the root. -/
def th : Nat → Nat → Nat
  | 0, j => j
  | r + 1, j => j + 1 + th r (j + 1)
theorem th_mono : ∀ (r j d : Nat), th r j ≤ th r (j + d)
  | 0, j, d => by simp only [th]; omega
  | r + 1, j, d => by
    have := th_mono r (j + 1) d
    simp only [th]
    rw [show j + d + 1 = j + 1 + d by omega]
    omega
theorem th8 (j : Nat) : 40 ≤ th 8 j := by
  simp only [th]
  omega

/-- The variables with index v. -/
def occ : F → Nat → Nat
  | .nil, _ => 0
  | .cons _ k _ ix kids rest, v => (if k = 5 then (if ix.toNat = v then 1 else 0) else if k = 4 then occ kids (v + 1) else occ kids v) + occ rest v
def occN (g : Nd) (v : Nat) : Nat := if g.k = 5 then (if g.ix.toNat = v then 1 else 0) else if g.k = 4 then occ g.kids (v + 1) else occ g.kids v
theorem sm_one (n v0 : Nat) (j : Nat) : sm n (fun v => if v0 = j + v then 1 else 0) ≤ 1 := by
  by_cases h : j ≤ v0 ∧ v0 - j < n
  · have := sm_pick n (v0 - j) (fun _ => 1) h.2
    refine Nat.le_trans (sm_le n _ (fun v => if v = v0 - j then 1 else 0) (fun v _ => ?_)) (Nat.le_of_eq this)
    show (if v0 = j + v then 1 else 0) ≤ (if v = v0 - j then 1 else 0)
    by_cases e : v0 = j + v
    · rw [if_pos e, if_pos (by omega)]
      exact Nat.le_refl _
    · rw [if_neg e]
      exact Nat.zero_le _
  · rw [sm_zero n _ (fun v hv => if_neg (by omega))]
    omega
theorem occ_sum : ∀ (f : F) (n j : Nat), sm n (fun v => occ f (j + v)) ≤ f.sz := by
  intro f
  induction f with
  | nil => intro n j; exact Nat.le_of_eq (sm_zero n _ (fun _ _ => rfl))
  | cons lab k fr ix kids rest ihk ihr =>
    intro n j
    have hr := ihr n j
    have hk := ihk n j
    have hk4 := ihk n (j + 1)
    simp only [occ]
    rw [sm_add]
    simp only [F.sz]
    by_cases h5 : k = 5
    · simp only [if_pos h5]
      have := sm_one n ix.toNat j
      omega
    · simp only [if_neg h5]
      by_cases h4 : k = 4
      · simp only [if_pos h4]
        have e : (fun v => occ kids (j + v + 1)) = fun v => occ kids (j + 1 + v) := by
          funext v; rw [show j + v + 1 = j + 1 + v by omega]
        rw [e]
        omega
      · simp only [if_neg h4]
        omega
theorem occN_sum (g : Nd) (n : Nat) : sm n (occN g) ≤ g.kids.sz + 1 := by
  have := occ_sum (.cons ⟨#[]⟩ g.k g.fr g.ix g.kids .nil) n 0
  simp only [occ, F.sz, Nat.zero_add, Nat.add_zero] at this
  exact this

/-- The size of what stands at an index. -/
def szO (s : List (Option Nd)) (v : Nat) : Nat := match (s[v]?).join with | some U => U.kids.sz | none => 0
/-- The size of a copy. -/
theorem cp_sz (s : List (Option Nd)) (hs : VaS s) : ∀ (f : F) (j : Nat) (u : Int), 0 ≤ u → wF f ((j + s.length : Nat) : Int) u = true →
    (cpF (kept j ++ s) f).sz ≤ f.sz + sm s.length (fun v => occ f (j + v) * szO s v) := by
  intro f
  induction f with
  | nil => intro j u _ _; simp only [cpF, F.sz]; omega
  | cons lab k fr ix kids rest ihk ihr =>
    intro j u hu h
    simp only [wF, Bool.and_eq_true] at h
    obtain ⟨⟨h1, h2⟩, h3⟩ := h
    have hr := ihr j u hu h3
    have hsum : ∀ x : Nat → Nat, sm s.length (fun v => (x v + occ rest (j + v)) * szO s v) = sm s.length (fun v => x v * szO s v) + sm s.length (fun v => occ rest (j + v) * szO s v) := by
      intro x
      rw [← sm_add]
      congr 1
      funext v
      rw [Nat.add_mul]
    rw [cpF_cons]
    simp only [occ, F.sz]
    rw [hsum]
    by_cases h5 : k = 5
    · subst h5
      have hn := shape_leaf h1 (by decide) (by decide)
      subst hn
      simp only [if_true, Bool.and_eq_true, decide_eq_true_eq] at h2 ⊢
      have hcp : (cpN (kept j ++ s) ⟨5, fr, ix, .nil⟩).kids.sz ≤ sm s.length (fun v => (if ix.toNat = j + v then 1 else 0) * szO s v) := by
        simp only [cpN, if_true]
        by_cases hlt : ix.toNat < j
        · rw [kept_get j _ hlt]
          simp only [cpF, F.sz]
          exact Nat.zero_le _
        · have hx : ((kept j ++ s)[ix.toNat]?).join = (s[ix.toNat - j]?).join := by
            unfold kept
            rw [List.getElem?_append_right (by simp; omega)]
            simp
          have hlen : ix.toNat - j < s.length := by omega
          have hp := sm_pick s.length (ix.toNat - j) (szO s) hlen
          have he : sm s.length (fun v => (if ix.toNat = j + v then 1 else 0) * szO s v) = szO s (ix.toNat - j) := by
            rw [← hp]
            congr 1
            funext v
            by_cases e : ix.toNat = j + v
            · rw [if_pos e, if_pos (by omega), Nat.one_mul]
            · rw [if_neg e, if_neg (by omega), Nat.zero_mul]
          rw [he, hx]
          obtain ⟨U, eU, _⟩ := hs.join hlen
          unfold szO
          rw [eU]
          exact Nat.le_refl _
      omega
    · simp only [if_neg h5] at h2 ⊢
      simp only [cpN, if_neg h5]
      by_cases h4 : k = 4
      · simp only [if_pos h4] at h2 ⊢
        have hk := ihk (j + 1) (u + 1) (by omega) (by rw [show ((j + 1 + s.length : Nat) : Int) = ((j + s.length : Nat) : Int) + 1 by omega]; exact h2)
        rw [kept_succ]
        have e : (fun v => occ kids (j + v + 1) * szO s v) = fun v => occ kids (j + 1 + v) * szO s v := by
          funext v; rw [show j + v + 1 = j + 1 + v by omega]
        rw [e]
        omega
      · simp only [if_neg h4] at h2 ⊢
        by_cases h23 : k = 2 ∨ k = 3
        · rw [if_pos h23] at h2
          have hk := ihk j 0 (by omega) h2
          omega
        · have hn := shape_leaf h1 h23 h4
          subst hn
          simp only [cpF, F.sz]
          omega
theorem cpN_sz (s : List (Option Nd)) (hs : VaS s) (g : Nd) (u : Int) (hu : 0 ≤ u) (h : wN g (s.length : Int) u = true) :
    (cpN s g).kids.sz ≤ g.kids.sz + sm s.length (fun v => occN g v * szO s v) := by
  obtain ⟨k, fr, ix, kids⟩ := g
  have h9 := cp_sz s hs (.cons ⟨#[]⟩ k fr ix kids .nil) 0 u hu (by simp only [wF, Bool.and_true, Nat.zero_add]; exact h)
  rw [cpF_cons] at h9
  simp only [kept, List.replicate_zero, List.nil_append, cpF, F.sz, occ, Nat.zero_add, Nat.add_zero] at h9
  have e : (fun v => (if k = 5 then (if ix.toNat = v then 1 else 0) else if k = 4 then occ kids (v + 1) else occ kids v) * szO s v) = fun v => occN ⟨k, fr, ix, kids⟩ v * szO s v := by
    funext v; rfl
  rw [e] at h9
  show (cpN s ⟨k, fr, ix, kids⟩).kids.sz ≤ kids.sz + sm s.length (fun v => occN ⟨k, fr, ix, kids⟩ v * szO s v)
  omega

/-- The recursions at the root. -/
def rk : F → Nat
  | .nil => 0
  | .cons _ k _ _ kids _ => if k = 4 then 1 + rk kids else 0
def rkN (g : Nd) : Nat := if g.k = 4 then 1 + rk g.kids else 0
/-- What stands for a variable lies in the copy. -/
theorem cp_in (s : List (Option Nd)) {v : Nat} {U : Nd} (hU : (s[v]?).join = some U) : ∀ (f : F) (j : Nat), 0 < occ f (j + v) → hN U ≤ hF (cpF (kept j ++ s) f) := by
  intro f
  induction f with
  | nil => intro j h; simp [occ] at h
  | cons lab k fr ix kids rest ihk ihr =>
    intro j h
    simp only [occ] at h
    rw [cpF_cons]
    simp only [hF]
    by_cases hr : 0 < occ rest (j + v)
    · have := ihr j hr
      omega
    · by_cases h5 : k = 5
      · rw [if_pos h5] at h
        by_cases e : ix.toNat = j + v
        · have hx : ((kept j ++ s)[ix.toNat]?).join = some U := by
            rw [e]
            unfold kept
            rw [List.getElem?_append_right (by simp)]
            simpa using hU
          simp only [cpN, if_pos h5]
          rw [hx]
          simp only [hN]
          omega
        · rw [if_neg e] at h
          omega
      · rw [if_neg h5] at h
        simp only [cpN, if_neg h5]
        by_cases h4 : k = 4
        · rw [if_pos h4] at h
          simp only [if_pos h4]
          rw [kept_succ]
          have := ihk (j + 1) (by rw [show j + 1 + v = j + v + 1 by omega]; omega)
          omega
        · rw [if_neg h4] at h
          simp only [if_neg h4]
          have := ihk j (by omega)
          omega
/-- .. below all recursions at the root and the action behind them. -/
theorem cp_deep (s : List (Option Nd)) {v : Nat} {U : Nd} (hU : (s[v]?).join = some U) : ∀ (f : F) (j : Nat) (b u : Int), f.len ≤ 1 → wF f b u = true → ((j : Int) + v < u) → 0 < occ f (j + v) → rk f + 1 + hN U ≤ hF (cpF (kept j ++ s) f) := by
  intro f
  induction f with
  | nil => intro j b u _ _ _ h; simp [occ] at h
  | cons lab k fr ix kids rest ihk _ =>
    intro j b u hlen hw hju h
    have hrn : rest = .nil := nil_of_len (by simp only [F.len] at hlen; omega)
    subst hrn
    simp only [wF, Bool.and_eq_true, Bool.and_true] at hw
    obtain ⟨h1, h2⟩ := hw
    simp only [occ, Nat.add_zero] at h
    rw [cpF_cons]
    simp only [hF, rk]
    by_cases h5 : k = 5
    · exfalso
      rw [if_pos h5] at h h2
      simp only [Bool.and_eq_true, decide_eq_true_eq] at h2
      by_cases e : ix.toNat = j + v
      · omega
      · rw [if_neg e] at h
        omega
    · rw [if_neg h5] at h h2
      simp only [cpN, if_neg h5]
      by_cases h4 : k = 4
      · rw [if_pos h4] at h h2
        simp only [if_pos h4]
        rw [kept_succ]
        have hl : kids.len ≤ 1 := by
          subst h4
          simp [shapeB] at h1
          omega
        have := ihk (j + 1) (b + 1) (u + 1) hl h2 (by omega) (by rw [show j + 1 + v = j + v + 1 by omega]; omega)
        omega
      · rw [if_neg h4] at h
        simp only [if_neg h4]
        have := cp_in s hU kids j (by omega)
        omega
theorem rec_ne {fr : ByteArray} {ix : Int} {kids : F} (h : shapeB 4 fr ix kids = true) : kids ≠ .nil := by
  rintro rfl
  simp [shapeB, F.len] at h
theorem rk_h : ∀ (f : F) (b u : Int) (s : List (Option Nd)), wF f b u = true → f ≠ .nil → rk f + 1 ≤ hF (cpF s f) := by
  intro f
  induction f with
  | nil => intro b u s _ h; exact absurd rfl h
  | cons lab k fr ix kids rest ihk _ =>
    intro b u s hw _
    simp only [wF, Bool.and_eq_true] at hw
    obtain ⟨⟨h1, h2⟩, -⟩ := hw
    rw [cpF_cons]
    simp only [rk, hF]
    by_cases h4 : k = 4
    · have h5 : ¬ k = 5 := by omega
      rw [if_neg h5, if_pos h4] at h2
      have hne : kids ≠ .nil := by
        rw [h4] at h1
        exact rec_ne h1
      simp only [if_pos h4, cpN, if_neg h5]
      have := ihk (b + 1) (u + 1) (none :: s) h2 hne
      omega
    · rw [if_neg h4]; omega
theorem rkN_h (g : Nd) (b u : Int) (s : List (Option Nd)) (hw : wN g b u = true) : rkN g + 1 ≤ hN (cpN s g) := by
  obtain ⟨k, fr, ix, kids⟩ := g
  have h9 := rk_h (.cons ⟨#[]⟩ k fr ix kids .nil) b u s (by simp only [wF, Bool.and_true]; exact hw) (by simp)
  rw [cpF_cons] at h9
  simp only [cpF, hF, rk, Nat.max_zero] at h9
  show (if k = 4 then 1 + rk kids else 0) + 1 ≤ 1 + hF (cpN s ⟨k, fr, ix, kids⟩).kids
  omega
theorem cpN_deep (s : List (Option Nd)) {v : Nat} {U : Nd} (hU : (s[v]?).join = some U) (g : Nd) (b u : Int) (hw : wN g b u = true) (hv : (v : Int) < u) (h : 0 < occN g v) : rkN g + 1 + hN U ≤ hN (cpN s g) := by
  obtain ⟨k, fr, ix, kids⟩ := g
  have h9 := cp_deep s hU (.cons ⟨#[]⟩ k fr ix kids .nil) 0 b u (by simp [F.len]) (by simp only [wF, Bool.and_true]; exact hw) (by omega) (by simp only [occ, Nat.zero_add, Nat.add_zero]; exact h)
  rw [cpF_cons] at h9
  simp only [kept, List.replicate_zero, List.nil_append, cpF, hF, rk, Nat.max_zero] at h9
  show (if k = 4 then 1 + rk kids else 0) + 1 + hN U ≤ 1 + hF (cpN s ⟨k, fr, ix, kids⟩).kids
  omega

/-- What is known of the nodes of the environment. -/
def SzInv (s : List (Option Nd)) (g : Nd) : Prop :=
  ∀ v U, (s[v]?).join = some U → ∀ r, hN U ≤ th r (rkN g + 1 + v) → U.kids.sz + 1 ≤ 400 * zz r (tl s.length (occN g) v)

theorem szv_node {s : List (Option Nd)} {g : Nd} (hs : VaS s) (hi : SzInv s g) (hw : wN g (s.length : Int) (s.length : Int) = true) (hg : g.kids.sz + 1 ≤ 400) :
    ∀ r, hN (cpN s g) ≤ th r (rkN g) → (cpN s g).kids.sz + 1 ≤ 400 * zz r (sm s.length (occN g)) := by
  intro r hr
  cases r with
  | zero =>
    have := rkN_h g _ _ s hw
    simp only [th] at hr
    omega
  | succ r =>
    have h1 := cpN_sz s hs g _ (by omega) hw
    have h2 : sm s.length (fun v => occN g v * szO s v) ≤ sm s.length (fun v => 400 * (occN g v * zz r (tl s.length (occN g) v))) := by
      refine sm_le _ _ _ (fun v hv => ?_)
      by_cases ho : 0 < occN g v
      · obtain ⟨U, eU, _⟩ := hs.join hv
        have hd := cpN_deep s eU g _ _ hw (by omega) ho
        simp only [th] at hr
        have hm := th_mono r (rkN g + 1) v
        have := hi v U eU r (by omega)
        have e : szO s v = U.kids.sz := by unfold szO; rw [eU]
        rw [e, Nat.mul_left_comm]
        exact Nat.mul_le_mul_left _ (by omega)
      · rw [show occN g v = 0 by omega]
        simp
    rw [sm_mul 400] at h2
    have h3 := abel r s.length (occN g)
    have h4 : 400 * (sm s.length (fun v => occN g v * zz r (tl s.length (occN g) v)) + 1) ≤ 400 * zz (r + 1) (sm s.length (occN g)) := Nat.mul_le_mul_left _ h3
    omega

theorem szv_step {s : List (Option Nd)} {g : Nd} (hs : VaS s) (hi : SzInv s g) (hw : wN g (s.length : Int) (s.length : Int) = true) (hg : g.kids.sz + 1 ≤ 400) (h4 : g.k = 4)
    {lab fr : ByteArray} {k ix : Int} {kids : F} (hk : g.kids = .cons lab k fr ix kids .nil) : SzInv (some (cpN s g) :: s) ⟨k, fr, ix, kids⟩ := by
  have hocc : ∀ v, occN ⟨k, fr, ix, kids⟩ (v + 1) = occN g v := by
    intro v
    unfold occN
    rw [if_neg (show ¬ g.k = 5 by omega), if_pos h4, hk]
    simp only [occ, Nat.add_zero]
  have hrk : rkN g = 1 + rkN ⟨k, fr, ix, kids⟩ := by
    unfold rkN
    rw [if_pos h4, hk]
    simp only [rk]
  have hfun : (fun v => occN ⟨k, fr, ix, kids⟩ (v + 1)) = occN g := funext hocc
  intro v U hU r hr
  cases v with
  | zero =>
    have e : cpN s g = U := by simpa using hU
    subst e
    have := szv_node hs hi hw hg r (by rw [hrk, Nat.add_comm]; exact hr)
    simp only [List.length_cons, tl]
    rw [hfun]
    exact this
  | succ v =>
    have hU' : (s[v]?).join = some U := by simpa using hU
    have := hi v U hU' r (by rw [hrk]; rw [show 1 + rkN ⟨k, fr, ix, kids⟩ + 1 + v = rkN ⟨k, fr, ix, kids⟩ + 1 + (v + 1) by omega]; exact hr)
    simp only [List.length_cons, tl]
    rw [hfun]
    exact this

theorem unfN_sz : ∀ (n : Nat) (s : List (Option Nd)) (g : Nd), VaS s → SzInv s g → wN g (s.length : Int) (s.length : Int) = true → g.kids.sz + 1 ≤ 400 →
    hN (unfN n s g) ≤ 40 → (unfN n s g).kids.sz + 1 ≤ 160000000000000000 := by
  have key : ∀ (s : List (Option Nd)) (g : Nd), VaS s → SzInv s g → wN g (s.length : Int) (s.length : Int) = true → g.kids.sz + 1 ≤ 400 →
      hN (cpN s g) ≤ 40 → (cpN s g).kids.sz + 1 ≤ 160000000000000000 := by
    intro s g hs hi hw hg hh
    have h1 := szv_node hs hi hw hg 8 (Nat.le_trans hh (th8 _))
    have h2 := occN_sum g s.length
    have h3 := zz8 (sm s.length (occN g)) (by omega)
    omega
  intro n
  induction n with
  | zero => intro s g hs hi hw hg hh; exact key s g hs hi hw hg hh
  | succ n ih =>
    intro s g hs hi hw hg hh
    unfold unfN at hh ⊢
    by_cases h3 : g.k = 4
    · rw [if_pos h3] at hh ⊢
      cases hk : g.kids with
      | nil => rw [hk] at hh; exact key s g hs hi hw hg hh
      | cons lab k fr ix kids rest =>
        rw [hk] at hh
        simp only at hh ⊢
        have hw0 := hw
        unfold wN at hw
        simp only [Bool.and_eq_true] at hw
        have hrn : rest = .nil := by
          have h1 := hw.1
          rw [h3, hk] at h1
          simp [shapeB, F.len] at h1
          exact nil_of_len (by omega)
        subst hrn
        refine ih _ _ ?_ (szv_step hs hi hw0 hg h3 hk) ?_ ?_ hh
        · intro x hx
          rcases List.mem_cons.1 hx with rfl | hx
          · exact ⟨_, rfl, cpN_w s hs g (wN_u _ _ _ _ hw0 (by omega))⟩
          · exact hs x hx
        · have h2 := hw.2
          rw [if_neg (by omega), if_pos h3, hk] at h2
          simp only [wF, Bool.and_eq_true] at h2
          unfold wN
          simp only [Bool.and_eq_true]
          rw [show (((some (cpN s g) :: s).length : Nat) : Int) = (s.length : Int) + 1 by simp]
          exact h2.1
        · rw [hk] at hg
          simp only [F.sz] at hg
          show kids.sz + 1 ≤ 400
          omega
    · rw [if_neg h3] at hh ⊢
      exact key s g hs hi hw hg hh
theorem unf_sz (g : Nd) (hw : wN g 0 0 = true) (hg : g.kids.sz + 1 ≤ 400) (hh : hN (unf g) ≤ 40) : (unf g).kids.sz + 1 ≤ 160000000000000000 := by
  refine unfN_sz _ [] g (fun x hx => by simp at hx) (fun v U hU => by simp at hU) (by simpa using hw) hg hh
end Go.Proofs.YtgcefippeokmcabGreatDoor.Lo

/- l2Branches of the model. -/
namespace Go.Proofs.YtgcefippeokmcabGreatDoor.Lo
open Go.RowKit

theorem below_drewN {B : Nat} {a w : World} (h : Below B a w) (n : Nat) : Below B a (w.drewN n) := ⟨h.os, h.tape, h.output, h.size, h.block⟩

theorem specLab_q (s : ByteArray) (v : Bool) (h : labB s = v) (w : World) : Calls Tryz.prog 57 #[.string s] w fun e w' => e = .returned (.bool v) ∧ w' = w :=
  (specLab s w).mono fun _ _ ⟨h1, h2⟩ => ⟨by rw [h1, h], h2.symm⟩

/-- What a round of l1Branches knows. -/
def BrRel (W : World) (a : Option Addr) (f : F) (iv : Value) (wr : World) : Prop :=
  ∃ g k p, k + g.len = f.len ∧ iv = .int .i64 (k : Nat) ∧ ascB none f = ascB p g ∧ At W a k g ∧
    ((k = 0 ∧ p = none) ∨ ∃ q k' b o, k = k' + 1 ∧ p = some q ∧ a = some ⟨b, o, none⟩ ∧ W.cell? ⟨b, o + k' * 5, none⟩ = some (.string q)) ∧ Below W.heap.size W wr

set_option maxHeartbeats 800000 in
set_option maxRecDepth 100000 in
theorem sv_branches (w : World) (f : F) (k ix : Int) (fr : ByteArray) (sv : Value) (hs : Sl w sv f) :
    Calls Tryz.prog 49 #[.agg #[.int .i64 k, .string fr, .int .i64 ix, sv]] w fun e w' => e = .returned (.bool (branchesB f)) ∧ Below w.heap.size w w' := by
  obtain ⟨a, cap, rfl, hlen, hat⟩ := hs.at
  have hb0 := alloc_below w (.cells #[.int .i64 k, .string fr, .int .i64 ix, .slice a f.len cap] ( /- t -/ 33))
  have HA := hide (hat.still (Still.of_below hb0))
  clear hs hat
  unfold maxLen at hlen
  go_enter Tryz.func49, Tryz.ntmps49
  go_wp2_with fail
  have hc4 : (w.alloc (.cells #[.int .i64 k, .string fr, .int .i64 ix, .slice a f.len cap] ( /- t -/ 33))).cell? ⟨w.heap.size, 3, none⟩ = some (.slice a f.len cap) := by go_simp
  have hsz : w.heap.size < (w.alloc (.cells #[.int .i64 k, .string fr, .int .i64 ix, .slice a f.len cap] ( /- t -/ 33))).heap.size := by simp
  generalize (w.alloc (.cells #[.int .i64 k, .string fr, .int .i64 ix, .slice a f.len cap] ( /- t -/ 33))) = W at *
  go_loopw [3] (fun iv wr => BrRel W a f iv wr) (fun iv _ => f.len - (intOf iv).toNat)
  case atStart => exact ⟨f, 0, none, by omega, rfl, rfl, HA.out, Or.inl ⟨rfl, rfl⟩, Below.refl _ _⟩
  case round =>
    obtain ⟨g, k, p, hk, rfl, hasc, hg, hp, hb⟩ := hrel
    have hd4 := (hb.cell (p := ⟨w.heap.size, 3, none⟩) hsz).trans hc4
    have HB := hide (hb0.trans (hb.mono (Nat.le_of_lt hsz)))
    have HP := hide hp
    have HS := hide hasc
    clear hp hasc hb0 hc4
    cases g with
    | nil =>
      have H5 : Hid (k = f.len) := by unfold Hid; simpa [F.len] using hk
      have hge : f.len ≤ k := Nat.le_of_eq H5.out.symm
      clear hk
      go_wp2_with fail
      all_goals go_ret
      · have h1 : (1 : Int) ≤ f.len := by assumption
        refine ⟨ret_bool ?_, HB.out⟩
        show decide ((f.len : Int) ≤ 4) = _
        unfold branchesB
        rw [HS.out, ascB, Bool.true_and]
        exact decide_eq_decide.2 (by omega)
      · have h1 : (f.len : Int) < 1 := by assumption
        refine ⟨ret_bool ?_, HB.out⟩
        unfold branchesB
        rw [HS.out, ascB, Bool.true_and]
        exact (decide_eq_false (by omega)).symm
    | cons lab kd fr' ix' kids rest =>
      have HK : Hid (k + 1 + rest.len = f.len) := by unfold Hid; simp only [F.len] at hk; omega
      have hlt : k < f.len := by have := HK.out; omega
      obtain ⟨b, o, rfl, l1, _, _, _, c0, _, _, _, _, _⟩ := (hg.still (Still.of_below hb)).head
      have HW : Hid (W.cell? ⟨b, o + k * 5, none⟩ = some (.string lab)) := by
        obtain ⟨b2, o2, e, _, _, _, _, c0', _⟩ := hg.head
        simp only [Option.some.injEq, Addr.mk.injEq, and_true] at e
        obtain ⟨rfl, rfl⟩ := e
        exact c0'
      have HG := hide hg
      clear hk hg
      cases hl : labB lab with
      | false =>
        have HL := hide hl
        clear hl
        go_wp2_with fail
        go_quiet ((go_at_call 57; exact Calls.quiet_of_same (specLab_q _ _ HL.out _)))
        go_wp2_with fail
        go_ret
        refine ⟨ret_bool ?_, below_drewN HB.out _⟩
        unfold branchesB
        rw [HS.out]
        cases p <;> simp [ascB, HL.out]
      | true =>
        have HL := hide hl
        clear hl
        rcases HP.out with ⟨hk0, rfl⟩ | ⟨q, k', b', o', rfl, rfl, e1, e2⟩
        · have hd0 : decide (0 < k) = false := by rw [hk0]; rfl
          have HK0 := hide hk0
          clear hk0
          go_wp2_with fail
          go_quiet ((go_at_call 57; exact Calls.quiet_of_same (specLab_q _ _ HL.out _)))
          go_wp2_with fail
          refine ⟨⟨rest, k + 1, some lab, by have := HK.out; omega, by go_num, ?_, HG.out.tail, Or.inr ⟨lab, k, b, o, rfl, rfl, rfl, HW.out⟩, below_drewN hb _⟩, by simp [intOf]; omega⟩
          rw [HS.out]
          simp [ascB, HL.out]
        · simp only [Option.some.injEq, Addr.mk.injEq, and_true] at e1
          obtain ⟨rfl, rfl⟩ := e1
          have d0 := (Still.of_below hb) _ _ e2
          clear e2
          cases hbl : Op.bytesLess q.toList lab.toList with
          | false =>
            go_wp2_with fail
            go_quiet ((go_at_call 57; exact Calls.quiet_of_same (specLab_q _ _ HL.out _)))
            go_wp2_with fail
            go_ret
            refine ⟨ret_bool ?_, below_drewN HB.out _⟩
            unfold branchesB
            rw [HS.out]
            simp [ascB, HL.out, hbl]
          | true =>
            go_wp2_with fail
            go_quiet ((go_at_call 57; exact Calls.quiet_of_same (specLab_q _ _ HL.out _)))
            go_wp2_with fail
            refine ⟨⟨rest, k' + 1 + 1, some lab, by have := HK.out; omega, by go_num, ?_, HG.out.tail, Or.inr ⟨lab, k' + 1, b, o, rfl, rfl, rfl, HW.out⟩, below_drewN hb _⟩, by simp [intOf]; omega⟩
            rw [HS.out]
            simp [ascB, HL.out, hbl]
end Go.Proofs.YtgcefippeokmcabGreatDoor.Lo

/- The linked nodes that linkNode makes: what it is that a value is linked as a local type. -/
namespace Go.Proofs.YtgcefippeokmcabGreatDoor.Lo
open Go.RowKit

/-- A block with these cells that may be written. -/
def Blk (w : World) (b : Nat) (cs : Array Value) : Prop := ∃ t, w.heap[b]? = some (.cells cs t (0, 0))
theorem Blk.lt {w : World} {b : Nat} {cs : Array Value} (h : Blk w b cs) : b < w.heap.size := by
  obtain ⟨t, h⟩ := h
  exact (Array.getElem?_eq_some_iff.1 h).1
theorem Blk.same {w w' : World} {b : Nat} {cs : Array Value} (h : Blk w b cs) (e : w'.heap[b]? = w.heap[b]?) : Blk w' b cs := by
  obtain ⟨t, h⟩ := h
  exact ⟨t, e.trans h⟩
theorem Blk.below {w w' : World} {b : Nat} {cs : Array Value} (h : Blk w b cs) (hb : Below w.heap.size w w') : Blk w' b cs := h.same (hb.block _ h.lt)
theorem Blk.only {w w' : World} {b c : Nat} {cs : Array Value} (h : Blk w b cs) (hb : Only c w w') (hc : b ≠ c) : Blk w' b cs := h.same (hb.block _ h.lt hc)
theorem Blk.now (w : World) (cs : Array Value) (t : TypeId) : Blk (w.alloc (.cells cs t)) w.heap.size cs :=
  ⟨t, by show (w.heap.push _)[w.heap.size]? = _; simp⟩
theorem Blk.cell {w : World} {b : Nat} {cs : Array Value} (h : Blk w b cs) (o : Nat) : w.cell? ⟨b, o, none⟩ = cs[o]? := by
  obtain ⟨t, h⟩ := h
  simp [World.cell?, h]
theorem Blk.frozen {w : World} {b : Nat} {cs : Array Value} (h : Blk w b cs) (o : Nat) : w.frozen? ⟨b, o, none⟩ = false := by
  obtain ⟨t, h⟩ := h
  simp [World.frozen?, h]
theorem Blk.set {w : World} {b : Nat} {cs : Array Value} (h : Blk w b cs) (o : Nat) (v : Value) : Blk (w.setCell ⟨b, o, none⟩ v) b (cs.setIfInBounds o v) := by
  obtain ⟨t, h⟩ := h
  exact ⟨t, heap_setCell_same h v⟩

/-- What a node's value is; P reads the row of cells below it. ps: the recursions around, the outermost first. -/
def NodeC (w : World) (k : Int) (fr : ByteArray) (ix : Int) (n : Nat) (v : Value) (ps : List Nat) (bs : List Nat) (P : List Nat → List Value → List Nat → Prop) : Prop :=
  (k = 1 ∧ v = .iface ( /- t -/ 120) (.agg #[]) ∧ bs = []) ∨
  (k = 5 ∧ (∃ l, 0 ≤ ix ∧ ix < ps.length ∧ ps[ps.length - 1 - ix.toNat]? = some l ∧ v = .iface ( /- t -/ 112) (.agg #[.pointer (some ⟨l, 0, none⟩)])) ∧ bs = []) ∨
  (k = 4 ∧ ∃ b s u ks, v = .iface ( /- t -/ 108) (.pointer (some ⟨b, 0, none⟩)) ∧ Blk w b #[u] ∧ b ∉ ps ∧ bs = b :: ks ∧ P (ps ++ [b]) [s, u] ks) ∨
  ((k = 2 ∨ k = 3) ∧ ∃ b r cap cs xs ks, v = .iface ( /- t -/ 125) (.pointer (some ⟨b, 0, none⟩)) ∧ Blk w b #[.int .i64 k, .string fr, .slice (some ⟨r, 0, none⟩) n cap] ∧
    n ≤ cap ∧ cap ≤ maxLen ∧ Blk w r cs ∧ cs.toList.take (n * 2) = xs ∧ bs = b :: r :: ks ∧ P ps xs ks)

/-- The row of cells xs, a label and a node each, is linked as the list. -/
def Lk (w : World) : F → List Nat → List Value → List Nat → Prop
  | .nil, _, xs, bs => xs = [] ∧ bs = []
  | .cons lab k fr ix kids rest, ps, xs, bs => ∃ v ys ks rs, xs = .string lab :: v :: ys ∧ bs = ks ++ rs ∧
      NodeC w k fr ix kids.len v ps ks (fun ps' xs' ks' => Lk w kids ps' xs' ks') ∧ Lk w rest ps ys rs
/-- A value is linked as the node. -/
def LkN (w : World) (k : Int) (fr : ByteArray) (ix : Int) (kids : F) (ps : List Nat) (v : Value) (bs : List Nat) : Prop :=
  NodeC w k fr ix kids.len v ps bs (fun ps' xs' ks' => Lk w kids ps' xs' ks')

theorem NodeC.same {w w' : World} {k : Int} {fr : ByteArray} {ix : Int} {n : Nat} {v : Value} {ps bs : List Nat} {P Q : List Nat → List Value → List Nat → Prop}
    (h : NodeC w k fr ix n v ps bs P) (hs : Same w w' bs) (hP : ∀ ps' xs' ks', (∀ b, b ∈ ks' → b ∈ bs) → P ps' xs' ks' → Q ps' xs' ks') : NodeC w' k fr ix n v ps bs Q := by
  rcases h with h | h | ⟨h1, b, s, u, ks, h2, h3, h4, rfl, h6⟩ | ⟨h1, b, r, cap, cs, xs, ks, h2, h3, h4, h5, h6, h7, rfl, h9⟩
  · exact Or.inl h
  · exact Or.inr (Or.inl h)
  · exact Or.inr (Or.inr (Or.inl ⟨h1, b, s, u, ks, h2, h3.same (hs b (by simp)), h4, rfl, hP _ _ _ (fun x hx => by simp [hx]) h6⟩))
  · exact Or.inr (Or.inr (Or.inr ⟨h1, b, r, cap, cs, xs, ks, h2, h3.same (hs b (by simp)), h4, h5, h6.same (hs r (by simp)), h7, rfl, hP _ _ _ (fun x hx => by simp [hx]) h9⟩))

theorem Lk.same {w w' : World} : ∀ (f : F) (ps : List Nat) (xs : List Value) (bs : List Nat), Lk w f ps xs bs → Same w w' bs → Lk w' f ps xs bs := by
  intro f
  induction f with
  | nil => intro ps xs bs h _; exact h
  | cons lab k fr ix kids rest ihk ihr =>
    intro ps xs bs h hs
    obtain ⟨v, ys, ks, rs, e1, rfl, hn, hr⟩ := h
    refine ⟨v, ys, ks, rs, e1, rfl, hn.same (fun b hb => hs b (List.mem_append_left _ hb)) (fun ps' xs' ks' hsub hp => ihk _ _ _ hp (fun b hb => hs b (List.mem_append_left _ (hsub b hb)))), ihr _ _ _ hr (fun b hb => hs b (List.mem_append_right _ hb))⟩

theorem LkN.same {w w' : World} {k : Int} {fr : ByteArray} {ix : Int} {kids : F} {ps : List Nat} {v : Value} {bs : List Nat} (h : LkN w k fr ix kids ps v bs) (hs : Same w w' bs) : LkN w' k fr ix kids ps v bs :=
  NodeC.same h hs (fun _ _ _ hsub hp => Lk.same _ _ _ _ hp (fun b hb => hs b (hsub b hb)))

theorem Lk.lt {w : World} : ∀ (f : F) (ps : List Nat) (xs : List Value) (bs : List Nat), Lk w f ps xs bs → ∀ b, b ∈ bs → b < w.heap.size := by
  intro f
  induction f with
  | nil => intro ps xs bs h b hb; rw [h.2] at hb; simp at hb
  | cons lab k fr ix kids rest ihk ihr =>
    intro ps xs bs h b hb
    obtain ⟨v, ys, ks, rs, e1, rfl, hn, hr⟩ := h
    rcases List.mem_append.1 hb with hb | hb
    · rcases hn with ⟨-, -, rfl⟩ | ⟨-, -, rfl⟩ | ⟨h1, b', s, u, ks', h2, h3, h4, rfl, h6⟩ | ⟨h1, b', r, cap, cs, xs, ks', h2, h3, h4, h5, h6, h7, rfl, h9⟩
      · simp at hb
      · simp at hb
      · rcases List.mem_cons.1 hb with rfl | hb
        · exact h3.lt
        · exact ihk _ _ _ h6 b hb
      · rcases List.mem_cons.1 hb with rfl | hb
        · exact h3.lt
        · rcases List.mem_cons.1 hb with rfl | hb
          · exact h6.lt
          · exact ihk _ _ _ h9 b hb
    · exact ihr _ _ _ hr b hb

theorem LkN.lt {w : World} {k : Int} {fr : ByteArray} {ix : Int} {kids : F} {ps : List Nat} {v : Value} {bs : List Nat} (h : LkN w k fr ix kids ps v bs) : ∀ b, b ∈ bs → b < w.heap.size :=
  Lk.lt (.cons ⟨#[]⟩ k fr ix kids .nil) ps [.string ⟨#[]⟩, v] bs ⟨v, [], bs, [], rfl, by simp, h, rfl, rfl⟩

/-- One branch more. -/
theorem Lk.snoc {w : World} {lab : ByteArray} {k : Int} {fr : ByteArray} {ix : Int} {kids : F} {v : Value} {ks : List Nat} : ∀ (p : F) (ps : List Nat) (xs : List Value) (bs : List Nat), Lk w p ps xs bs → LkN w k fr ix kids ps v ks →
    Lk w (p.app (.cons lab k fr ix kids .nil)) ps (xs ++ [.string lab, v]) (bs ++ ks) := by
  intro p
  induction p with
  | nil =>
    intro ps xs bs h hn
    obtain ⟨rfl, rfl⟩ := h
    exact ⟨v, [], ks, [], rfl, by simp, hn, rfl, rfl⟩
  | cons lab' k' fr' ix' kids' rest ihk ihr =>
    intro ps xs bs h hn
    obtain ⟨v', ys, ks', rs, rfl, rfl, hn', hr⟩ := h
    exact ⟨v', _, ks', rs ++ ks, rfl, by rw [List.append_assoc], hn', ihr _ _ _ hr hn⟩

theorem Lk.length {w : World} : ∀ (f : F) (ps : List Nat) (xs : List Value) (bs : List Nat), Lk w f ps xs bs → xs.length = f.len * 2 := by
  intro f
  induction f with
  | nil => intro ps xs bs h; rw [h.1]; rfl
  | cons lab k fr ix kids rest ihk ihr =>
    intro ps xs bs h
    obtain ⟨v, ys, ks, rs, rfl, rfl, -, hr⟩ := h
    have := ihr _ _ _ hr
    simp only [List.length_cons, F.len]
    omega

/-- What a value of the type linkedNode looks like. -/
theorem LkN.val {w : World} {k : Int} {fr : ByteArray} {ix : Int} {kids : F} {ps : List Nat} {v : Value} {bs : List Nat} (h : LkN w k fr ix kids ps v bs) : ∃ T u, v = .iface T u := by
  rcases h with ⟨-, h, -⟩ | ⟨-, ⟨l, -, -, -, h⟩, -⟩ | ⟨-, b, s, u, ks, h, -⟩ | ⟨-, b, r, cap, cs, xs, ks, h, -⟩ <;> exact ⟨_, _, h⟩

/-! ### The recursions around -/

/-- A slice of pointers to these blocks. -/
def Ps (w : World) (v : Value) (ps : List Nat) : Prop :=
  (ps = [] ∧ v = .slice none 0 0) ∨ ∃ b cap, ps ≠ [] ∧ v = .slice (some ⟨b, 0, none⟩) ps.length cap ∧ ps.length ≤ cap ∧ cap ≤ maxLen ∧ ∀ i l, ps[i]? = some l → w.cell? ⟨b, i, none⟩ = some (.pointer (some ⟨l, 0, none⟩))
theorem Ps.still {w w' : World} (h : Still w w') {v : Value} {ps : List Nat} (hs : Ps w v ps) : Ps w' v ps := by
  rcases hs with hs | ⟨b, cap, h1, h2, h3, h4, h5⟩
  · exact Or.inl hs
  · exact Or.inr ⟨b, cap, h1, h2, h3, h4, fun i l hl => h _ _ (h5 i l hl)⟩
theorem Ps.nil (w : World) : Ps w (.slice none 0 0) [] := Or.inl ⟨rfl, rfl⟩
theorem Ps.only {w w' : World} {c : Nat} {m : Int} (hc : Ctr w c m) (h : Only c w w') {v : Value} {ps : List Nat} (hs : Ps w v ps) : Ps w' v ps := by
  rcases hs with hs | ⟨b, cap, h1, h2, h3, h4, h5⟩
  · exact Or.inl hs
  · refine Or.inr ⟨b, cap, h1, h2, h3, h4, fun i l hl => ?_⟩
    have g0 := h5 i l hl
    have hne : b ≠ c := by
      rintro rfl
      obtain ⟨t, hh⟩ := hc
      simp only [World.cell?, hh] at g0
      cases i with
      | zero => simp at g0
      | succ x => simp at g0
    rw [Same.cell (h.block b (World.block_lt_of_cell? _ _ g0) hne)]
    exact g0
theorem Ps.val {w : World} {v : Value} {ps : List Nat} (h : Ps w v ps) : ∃ a cap, v = .slice a ps.length cap ∧ ps.length ≤ cap ∧ cap ≤ maxLen := by
  rcases h with ⟨rfl, rfl⟩ | ⟨b, cap, h1, h2, h3, h4, h5⟩
  · exact ⟨none, 0, rfl, Nat.le_refl _, Nat.zero_le _⟩
  · exact ⟨_, cap, h2, h3, h4⟩

/-- A row of the call's own that holds these pointers. -/
theorem Ps.of_owns {w : World} {base : Nat} {e : TypeId} {v : Value} {ps : List Nat} (hne : ps ≠ []) (h : w.ownsRow base e 1 v ps.length (ps.map fun l => Value.pointer (some ⟨l, 0, none⟩))) : Ps w v ps := by
  rcases h with ⟨hl, ⟨hv, h0⟩ | ⟨g, cap, cur, hv, hb, hg, h1, h2, h3, h4⟩⟩
  · exact Or.inl ⟨List.eq_nil_of_length_eq_zero h0, hv⟩
  · cases ps with
    | nil => exact absurd rfl hne
    | cons p ps =>
      refine Or.inr ⟨g, cap, by simp, hv, h1, h2, fun i l hl => ?_⟩
      have hh : ((p :: ps).map fun l => Value.pointer (some ⟨l, 0, none⟩))[i]? = some (.pointer (some ⟨l, 0, none⟩)) := by
        rw [List.getElem?_map, hl]; rfl
      rw [← h4, List.getElem?_take] at hh
      rw [cell_of_heap hg]
      split at hh
      · simpa using hh
      · cases hh

/-- As Ps, and it is a row of such pointers' own. -/
def Pt (w : World) (v : Value) (ps : List Nat) : Prop :=
  (ps = [] ∧ v = .slice none 0 0) ∨ ∃ (b cap : Nat) (cs : Array Value), ps ≠ [] ∧ v = .slice (some ⟨b, 0, none⟩) ps.length cap ∧ ps.length ≤ cap ∧ cap ≤ maxLen ∧ w.heap[b]? = some (Obj.cells cs ( /- t -/ 108) (0, 0)) ∧ ∀ i l : Nat, ps[i]? = some l → cs[i]? = some (Value.pointer (some ⟨l, 0, none⟩))
theorem Pt.nil (w : World) : Pt w (.slice none 0 0) [] := Or.inl ⟨rfl, rfl⟩
theorem Pt.ps {w : World} {v : Value} {ps : List Nat} (h : Pt w v ps) : Ps w v ps := by
  rcases h with h | ⟨b, cap, cs, h1, h2, h3, h4, h5, h6⟩
  · exact Or.inl h
  · exact Or.inr ⟨b, cap, h1, h2, h3, h4, fun i l hl => by rw [cell_of_heap h5]; exact h6 i l hl⟩
theorem Pt.keep {w w' : World} {v : Value} {ps : List Nat} (h : Pt w v ps) (hk : ∀ (b : Nat) (cs : Array Value), w.heap[b]? = some (Obj.cells cs ( /- t -/ 108) (0, 0)) → w'.heap[b]? = some (Obj.cells cs ( /- t -/ 108) (0, 0))) : Pt w' v ps := by
  rcases h with h | ⟨b, cap, cs, h1, h2, h3, h4, h5, h6⟩
  · exact Or.inl h
  · exact Or.inr ⟨b, cap, cs, h1, h2, h3, h4, hk b cs h5, h6⟩
theorem Pt.below {w w' : World} {v : Value} {ps : List Nat} (h : Pt w v ps) (hb : Below w.heap.size w w') : Pt w' v ps :=
  h.keep fun b cs hc => by rw [hb.block b (Array.getElem?_eq_some_iff.1 hc).1]; exact hc
theorem Pt.of_owns {w : World} {base : Nat} {v : Value} {ps : List Nat} (hne : ps ≠ []) (h : w.ownsRow base ( /- t -/ 108) 1 v ps.length (ps.map fun l => Value.pointer (some ⟨l, 0, none⟩))) : Pt w v ps := by
  rcases h with ⟨hl, ⟨hv, h0⟩ | ⟨g, cap, cur, hv, hb, hg, h1, h2, h3, h4⟩⟩
  · exact Or.inl ⟨List.eq_nil_of_length_eq_zero h0, hv⟩
  · refine Or.inr ⟨g, cap, cur, hne, hv, h1, h2, hg, fun i l hl => ?_⟩
    have hh : (ps.map fun l => Value.pointer (some ⟨l, 0, none⟩))[i]? = some (.pointer (some ⟨l, 0, none⟩)) := by
      rw [List.getElem?_map, hl]; rfl
    rw [← h4, List.getElem?_take] at hh
    split at hh
    · simpa using hh
    · cases hh

end Go.Proofs.YtgcefippeokmcabGreatDoor.Lo

/- The scope of linkNode: Clip, inside, below. -/
namespace Go.Proofs.YtgcefippeokmcabGreatDoor.Lo
open Go.RowKit

theorem clip_calls (w : World) (a : Option Addr) (n cap : Nat) (hn : n ≤ cap) :
    Calls Tryz.prog 87 #[.slice a n cap] w fun e w' => e = .returned (.slice a n n) ∧ w' = w := by
  go_enter Tryz.func87, Tryz.ntmps87
  go_wp2_with fail
  go_ret
  exact ⟨rfl, rfl⟩

theorem Tryz.info108 : (Tryz.prog.info? ( /- t -/ 108)).map (fun i => (i.zero, i.size, i.bytes)) = some (some (.pointer none), 1, 8) := by kernel_rfl

/-- What inside gives. -/
def InsPost (w : World) (depth ung : Int) (ps : List Nat) (n : Nat) (e : Ending) (w' : World) : Prop :=
  ∃ v' cap, e = .returned (.agg #[.int .i64 depth, .slice (some v') n cap, .int .i64 ung]) ∧ Pt w' (.slice (some v') n cap) ps ∧ Below w.heap.size w w'

theorem grown_below {w w' : World} (h : w.grownBy w' none) : Below w.heap.size w w' := ⟨h.os, h.tape, h.output, h.size, fun k hk => h.block k hk (by simp)⟩

set_option maxHeartbeats 3200000 in
set_option maxRecDepth 100000 in
theorem ins_calls (w : World) (depth ung : Int) (lv : Value) (ps : List Nat) (l : Nat) (hp : Ps w lv ps) (hd0 : 0 ≤ depth) (hd : depth ≤ 41) (hu0 : 0 ≤ ung) (hu : ung ≤ 41) (hlen : ps.length ≤ 41) :
    Calls Tryz.prog 76 #[.agg #[.int .i64 depth, lv, .int .i64 ung], .pointer (some ⟨l, 0, none⟩)] w (InsPost w (depth + 1) (ung + 1) (ps ++ [l]) (ps.length + 1)) := by
  obtain ⟨i0, hi, hz0, hz1, hz2⟩ := info_parts Tryz.info108
  obtain ⟨a, cap, rfl, hcap, hmax⟩ := hp.val
  have hnone : a = none → ps.length = 0 ∧ ps.length = 0 := by
    rintro rfl
    rcases hp with ⟨rfl, -⟩ | ⟨b, c, -, e, -⟩
    · exact ⟨rfl, rfl⟩
    · injection e with e; cases e
  have holds : ∀ W : World, Below w.heap.size w W → ∀ b, a = some b → ∀ j u, (ps.map fun l => Value.pointer (some ⟨l, 0, none⟩))[j]? = some u → W.cell? (b.add j) = some u := by
    rintro W hW b rfl j u hu
    rcases hp with ⟨-, e⟩ | ⟨b', c, -, e, -, -, h5⟩
    · injection e with e; cases e
    · injection e with e
      injection e with e
      subst e
      rw [List.getElem?_map] at hu
      cases hl : ps[j]? with
      | none => rw [hl] at hu; cases hu
      | some x =>
        rw [hl] at hu
        have hu2 : Value.pointer (some ⟨x, 0, none⟩) = u := by simpa using hu
        subst hu2
        have := (Still.of_below hW) _ _ (h5 j x hl)
        unfold Addr.add
        split
        · rename_i hj0; subst hj0; simpa using this
        · simpa using this
  have HN := hide hnone
  have HO := hide holds
  clear hp hnone holds
  go_enter Tryz.func76, Tryz.ntmps76
  go_wp2_with fail
  have hB0 : Below w.heap.size w ((w.alloc (.cells #[.int .i64 depth, .slice a ps.length cap, .int .i64 ung] ( /- t -/ 104))).alloc (.cells #[.int .i64 0, .slice none 0 0, .int .i64 0] ( /- t -/ 104))) := (alloc_below _ _).alloc (by simp) _
  have hS0 : Blk ((w.alloc (.cells #[.int .i64 depth, .slice a ps.length cap, .int .i64 ung] ( /- t -/ 104))).alloc (.cells #[.int .i64 0, .slice none 0 0, .int .i64 0] ( /- t -/ 104))) w.heap.size #[.int .i64 depth, .slice a ps.length cap, .int .i64 ung] :=
    (Blk.now _ _ _).below (alloc_below _ _)
  have hR0 : Blk ((w.alloc (.cells #[.int .i64 depth, .slice a ps.length cap, .int .i64 ung] ( /- t -/ 104))).alloc (.cells #[.int .i64 0, .slice none 0 0, .int .i64 0] ( /- t -/ 104))) (w.heap.size + 1) #[.int .i64 0, .slice none 0 0, .int .i64 0] := by
    have := Blk.now (w.alloc (.cells #[.int .i64 depth, .slice a ps.length cap, .int .i64 ung] ( /- t -/ 104))) #[.int .i64 0, .slice none 0 0, .int .i64 0] ( /- t -/ 104)
    simpa using this
  have hZ0 : ((w.alloc (.cells #[.int .i64 depth, .slice a ps.length cap, .int .i64 ung] ( /- t -/ 104))).alloc (.cells #[.int .i64 0, .slice none 0 0, .int .i64 0] ( /- t -/ 104))).heap.size = w.heap.size + 2 := by simp
  generalize ((w.alloc (.cells #[.int .i64 depth, .slice a ps.length cap, .int .i64 ung] ( /- t -/ 104))).alloc (.cells #[.int .i64 0, .slice none 0 0, .int .i64 0] ( /- t -/ 104))) = W at *
  have c0 : W.cell? ⟨w.heap.size, 0, none⟩ = some (.int .i64 depth) := hS0.cell 0
  have c1 : W.cell? ⟨w.heap.size, 1, none⟩ = some (.slice a ps.length cap) := hS0.cell 1
  have c2 : W.cell? ⟨w.heap.size, 2, none⟩ = some (.int .i64 ung) := hS0.cell 2
  have hlt : w.heap.size < W.heap.size := by omega
  have hlt1 : w.heap.size + 1 < W.heap.size := by omega
  have HB := hide hB0
  have HR := hide hR0
  clear hB0 hR0 hS0 hZ0
  go_region_held3 (fun w' => w'.cell? ⟨w.heap.size, 0, none⟩ = some (.int .i64 depth) ∧ w'.cell? ⟨w.heap.size, 1, none⟩ = some (.slice a ps.length cap) ∧ w'.cell? ⟨w.heap.size, 2, none⟩ = some (.int .i64 ung))
    (first
      | go_keep
      | (go_split_ands
         refine ⟨?_, ?_, ?_⟩
         · (rw [hgrow.cell_far _ (by simp; omega) (by simp)]; assumption)
         · (rw [hgrow.cell_far _ (by simp; omega) (by simp)]; assumption)
         · (rw [hgrow.cell_far _ (by simp; omega) (by simp)]; assumption)))
    ((first
      | (go_at_call 87; refine (clip_calls _ a ps.length cap hcap).mono ?_; rintro e w' ⟨rfl, rfl⟩)
      | (refine step_append_grows (by rfl) _ _ _ (by rfl) ( /- t -/ 108) i0 _ 1 8 Tryz.underlying102 hi hz0 hz1 hz2 rfl (by omega) a ps.length ps.length (ps.map fun l => Value.pointer (some ⟨l, 0, none⟩)) (by rfl) HN.out (by simp) (HO.out _ (HB.out.alloc (by omega) _).drew)
          ⟨W.heap.size, 0, none⟩ 1 1 [.pointer (some ⟨l, 0, none⟩)] (by rfl) (by rfl) (World.news_of_block (cs := #[.pointer (some ⟨l, 0, none⟩)]) (t := ( /- t -/ 108)) (fr := (0, 0)) (heap_alloc_new W _)) (by simp [Value.oneCell']) (by omega) (by unfold maxLen; omega) (by omega) ?_;
         intro v' w1 hown hgrow; obtain ⟨g, gc, rfl, hg1, hg2⟩ := hown.form (by omega);
         have hR1 := Blk.same HR.out ((hgrow.block (w.heap.size + 1) (by simp; omega) (by simp)).trans (Below.heap_alloc W _ _ hlt1));
         have r0 : w1.cell? ⟨w.heap.size + 1, 0, none⟩ = some (.int .i64 0) := hR1.cell 0;
         have r1 : w1.cell? ⟨w.heap.size + 1, 1, none⟩ = some (.slice none 0 0) := hR1.cell 1;
         have r2 : w1.cell? ⟨w.heap.size + 1, 2, none⟩ = some (.int .i64 0) := hR1.cell 2;
         have f0 : ∀ o, w1.frozen? ⟨w.heap.size + 1, o, none⟩ = false := hR1.frozen;
         have hl1 : w.heap.size + 1 < w1.heap.size := hR1.lt)))
  all_goals
    go_wp2_with fail
    have e1 : IntKind.i64.wrap (depth + 1) = depth + 1 := IntWalk.i64_in _ (by omega)
    have e2 : IntKind.i64.wrap (ung + 1) = ung + 1 := IntWalk.i64_in _ (by omega)
    have hlen2 : (ps ++ [l]).length = ps.length + 1 := by simp
    have hb1 : Below w.heap.size w w1 := (HB.out.alloc (by omega) (.cells #[.pointer (some ⟨l, 0, none⟩)] ( /- t -/ 108))).drew.trans ((grown_below hgrow).mono (by simp; omega))
    have hP : Pt w1 (.slice (some ⟨g, 0, none⟩) (ps ++ [l]).length gc) (ps ++ [l]) := by
      refine Pt.of_owns (by simp) (base := (W.alloc (.cells #[.pointer (some ⟨l, 0, none⟩)] ( /- t -/ 108))).drew.heap.size) ?_
      rw [hlen2, List.map_append]
      exact hown
    rw [e1, e2]
    have hR2 : Blk (((w1.setCell ⟨w.heap.size + 1, 0, none⟩ (.int .i64 (depth + 1))).setCell ⟨w.heap.size + 1, 1, none⟩ (.slice (some ⟨g, 0, none⟩) (ps.length + 1) gc)).setCell ⟨w.heap.size + 1, 2, none⟩ (.int .i64 (ung + 1))) (w.heap.size + 1)
        #[.int .i64 (depth + 1), .slice (some ⟨g, 0, none⟩) (ps.length + 1) gc, .int .i64 (ung + 1)] := ((hR1.set 0 _).set 1 _).set 2 _
    have hb2 : Below w.heap.size w (((w1.setCell ⟨w.heap.size + 1, 0, none⟩ (.int .i64 (depth + 1))).setCell ⟨w.heap.size + 1, 1, none⟩ (.slice (some ⟨g, 0, none⟩) (ps.length + 1) gc)).setCell ⟨w.heap.size + 1, 2, none⟩ (.int .i64 (ung + 1))) :=
      ((hb1.setCell (by simp) _).setCell (by simp) _).setCell (by simp) _
    have hP2 : Pt (((w1.setCell ⟨w.heap.size + 1, 0, none⟩ (.int .i64 (depth + 1))).setCell ⟨w.heap.size + 1, 1, none⟩ (.slice (some ⟨g, 0, none⟩) (ps.length + 1) gc)).setCell ⟨w.heap.size + 1, 2, none⟩ (.int .i64 (ung + 1))) (.slice (some ⟨g, 0, none⟩) (ps ++ [l]).length gc) (ps ++ [l]) := by
      rcases hP with ⟨h, -⟩ | ⟨b, c, cs, h1, h2, h3, h4, h5, h6⟩
      · simp at h
      · have hbg : b = g := by
          injection h2 with h2
          injection h2 with h2
          injection h2 with h2
          exact h2.symm
        have hne : b ≠ w.heap.size + 1 := by simp at hg1; omega
        refine Or.inr ⟨b, c, cs, h1, h2, h3, h4, ?_, h6⟩
        rw [Below.heap_setCell _ _ _ _ hne, Below.heap_setCell _ _ _ _ hne, Below.heap_setCell _ _ _ _ hne]
        exact h5
    generalize (((w1.setCell ⟨w.heap.size + 1, 0, none⟩ (.int .i64 (depth + 1))).setCell ⟨w.heap.size + 1, 1, none⟩ (.slice (some ⟨g, 0, none⟩) (ps.length + 1) gc)).setCell ⟨w.heap.size + 1, 2, none⟩ (.int .i64 (ung + 1))) = w2 at *
    have q0 : w2.cell? ⟨w.heap.size + 1, 0, none⟩ = some (.int .i64 (depth + 1)) := hR2.cell 0
    have q1 : w2.cell? ⟨w.heap.size + 1, 1, none⟩ = some (.slice (some ⟨g, 0, none⟩) (ps.length + 1) gc) := hR2.cell 1
    have q2 : w2.cell? ⟨w.heap.size + 1, 2, none⟩ = some (.int .i64 (ung + 1)) := hR2.cell 2
    rw [hlen2] at hP2
    refine bodyPost_ret (v := .agg #[.int .i64 (depth + 1), .slice (some ⟨g, 0, none⟩) (ps.length + 1) gc, .int .i64 (ung + 1)]) (by simp [results, Tryz.results76, go_sem, q0, q1, q2]) rfl ?_
    exact ⟨_, _, rfl, hP2, hb2⟩

set_option maxHeartbeats 400000 in
set_option maxRecDepth 100000 in
theorem below_calls (w : World) (depth ung : Int) (lv : Value) (ps : List Nat) (hp : Ps w lv ps) (hd0 : 0 ≤ depth) (hd : depth ≤ 41) :
    Calls Tryz.prog 78 #[.agg #[.int .i64 depth, lv, .int .i64 ung]] w fun e w' => e = .returned (.agg #[.int .i64 (depth + 1), lv, .int .i64 0]) ∧ Below w.heap.size w w' := by
  obtain ⟨a, cap, rfl, -, -⟩ := hp.val
  clear hp
  go_enter Tryz.func78, Tryz.ntmps78
  go_wp2_with fail
  refine bodyPost_ret (v := .agg #[.int .i64 (depth + 1), .slice a ps.length cap, .int .i64 0]) (by simp [results, Tryz.results78, go_sem]) rfl ?_
  refine ⟨rfl, ?_⟩
  first
    | exact (alloc_below _ _).alloc (by simp) _
    | exact ((alloc_below _ _).alloc (by simp) _).drew

end Go.Proofs.YtgcefippeokmcabGreatDoor.Lo

/- The index of a variable in a scope of the program. -/
namespace Go.Proofs.YtgcefippeokmcabGreatDoor.Lo
open Go.RowKit

theorem Tryz.info110 : (Tryz.prog.info? ( /- t -/ 110)).map (fun i => (i.zero, i.size, i.bytes)) = some (some (.agg #[.nilIface]), 1, 16) := by kernel_rfl

theorem nodup_get {ps : List Nat} (h : ps.Nodup) {i j x : Nat} (hi : ps[i]? = some x) (hj : ps[j]? = some x) : i = j := by
  obtain ⟨h1, e1⟩ := List.getElem?_eq_some_iff.1 hi
  obtain ⟨h2, e2⟩ := List.getElem?_eq_some_iff.1 hj
  rcases Nat.lt_trichotomy i j with hlt | heq | hlt
  · exact absurd (e1.trans e2.symm) (List.pairwise_iff_getElem.1 h i j h1 h2 hlt)
  · exact heq
  · exact absurd (e2.trans e1.symm) (List.pairwise_iff_getElem.1 h j i h2 h1 hlt)

set_option maxHeartbeats 800000 in
set_option maxRecDepth 100000 in
/-- index: the recursion is around. -/
theorem idx_calls (w : World) (dp un : Int) (lv : Value) (ps : List Nat) (l i j : Nat) (hp : Ps w lv ps) (hnd : ps.Nodup) (hl : ps[j]? = some l) (hj : ps.length = j + 1 + i) (hlen : ps.length ≤ 41) (hblk : ∀ x, x ∈ ps → ∃ cs, Blk w x cs) :
    Calls Tryz.prog 75 #[.agg #[.int .i64 dp, lv, .int .i64 un], .pointer (some ⟨l, 0, none⟩)] w fun e w' => e = .returned (.int .i64 i) ∧ Below w.heap.size w w' := by
  rcases hp with ⟨rfl, -⟩ | ⟨b, cap, hne, rfl, hcap, hmax, hcell⟩
  · exfalso
    have : (0 : Nat) = j + 1 + i := hj
    omega
  obtain ⟨i0, hi, hz0, hz1, hz2⟩ := info_parts Tryz.info110
  have HI := hide hi
  have HI1 : Hid (i0.size ≠ 0) := by unfold Hid; rw [hz1]; decide
  have HBK := hide hblk
  clear hi hz0 hz1 hz2 hblk
  obtain ⟨n, hn⟩ : ∃ n, n = ps.length := ⟨_, rfl⟩
  have hn41 : n ≤ 41 := by omega
  have hin : i < n := by omega
  rw [← hn]
  have HC := hide hcell
  have HND := hide hnd
  have HL := hide hl
  have HJ : Hid (n = j + 1 + i ∧ n = ps.length) := ⟨by omega, hn⟩
  have hb0 := alloc_below w (.cells #[.int .i64 dp, .slice (some ⟨b, 0, none⟩) n cap, .int .i64 un] ( /- t -/ 104))
  have hbx := Blk.now w #[.int .i64 dp, .slice (some ⟨b, 0, none⟩) n cap, .int .i64 un] ( /- t -/ 104)
  clear hcell hnd hl hj hcap hmax hne hlen hn
  go_enter Tryz.func75, Tryz.ntmps75
  go_wp2_with fail
  generalize (w.alloc (.cells #[.int .i64 dp, .slice (some ⟨b, 0, none⟩) n cap, .int .i64 un] ( /- t -/ 104))) = W at *
  have c1 : W.cell? ⟨w.heap.size, 1, none⟩ = some (.slice (some ⟨b, 0, none⟩) n cap) := hbx.cell 1
  have hW : w.heap.size < W.heap.size := hbx.lt
  have HB := hide hb0
  clear hb0 hbx
  go_loopw [9] (fun iv wr => ∃ k : Nat, iv = .int .i64 k ∧ k ≤ i ∧ wr = W) (fun iv _ => i + 1 - (intOf iv).toNat)
  case atStart => exact ⟨0, rfl, Nat.zero_le _, rfl⟩
  case round =>
    obtain ⟨k, rfl, hk, rfl⟩ := hrel
    obtain ⟨r, hr⟩ : ∃ r, r + 1 + k = n := ⟨n - 1 - k, by omega⟩
    have hidx : (n : Int) - 1 - k = (r : Nat) := by omega
    have hkn : k < n := by omega
    have hr0 : (0 : Int) ≤ (r : Nat) := by omega
    have hrn : r < n := by omega
    obtain ⟨x, hx⟩ : ∃ x, ps[r]? = some x := ⟨ps[r]'(by have := HJ.out.2; omega), List.getElem?_eq_getElem (by have := HJ.out.2; omega)⟩
    have z0 : wr.cell? ⟨b, r, none⟩ = some (.pointer (some ⟨x, 0, none⟩)) := (Still.of_below HB.out) _ _ (HC.out _ _ hx)
    have hbw : b < wr.heap.size := World.block_lt_of_cell? _ _ z0
    by_cases hq : k = i
    · have hrj : r = j := by have := HJ.out.1; omega
      have hxl : x = l := by
        have := HL.out
        rw [hrj, this] at hx
        exact (Option.some.inj hx).symm
      have HK := hide hq
      subst hxl
      have n1 := run_eql_ptr_same (P := Tryz.prog) wr ⟨x, 0, none⟩ Tryz.underlying108 HI.out
      clear hx hr hrj hq
      go_wp2_with fail
      go_ret
      exact ⟨by rw [HK.out]; rfl, HB.out⟩
    · have hxl : x ≠ l := by
        rintro rfl
        have := nodup_get HND.out hx HL.out
        have := HJ.out.1
        omega
      have hki : k + 1 ≤ i := by omega
      have HKI := hide hki
      obtain ⟨cx, tx, hbx⟩ := HBK.out x (List.mem_of_getElem? hx)
      obtain ⟨cl, tl, hbl⟩ := HBK.out l (List.mem_of_getElem? HL.out)
      have n1 := run_eql_ptr_other (P := Tryz.prog) wr (a := ⟨x, 0, none⟩) (b := ⟨l, 0, none⟩) Tryz.underlying108 HI.out HI1.out (fun e => hxl (by injection e)) ((HB.out.block x (Array.getElem?_eq_some_iff.1 hbx).1).trans hbx) ((HB.out.block l (Array.getElem?_eq_some_iff.1 hbl).1).trans hbl)
      clear hx hr hq hki hbx hbl
      go_wp2_with fail
      refine ⟨⟨k + 1, by go_num, HKI.out, trivial⟩, ?_⟩
      have h9 := HKI.out
      simp [intOf]
      omega
end Go.Proofs.YtgcefippeokmcabGreatDoor.Lo

/- A recursion that is not in a scope of the program has no index there. -/
namespace Go.Proofs.YtgcefippeokmcabGreatDoor.Lo
open Go.RowKit

set_option maxHeartbeats 800000 in
set_option maxRecDepth 100000 in
/-- index: the recursion is not around. -/
theorem idx_none (w : World) (dp un : Int) (lv : Value) (ps : List Nat) (l : Nat) (hp : Ps w lv ps) (hl : l ∉ ps) (hlen : ps.length ≤ 41) (hblk : ∀ x, x ∈ ps → ∃ cs, Blk w x cs) (hbl : ∃ cs, Blk w l cs) :
    Calls Tryz.prog 75 #[.agg #[.int .i64 dp, lv, .int .i64 un], .pointer (some ⟨l, 0, none⟩)] w fun e w' => e = .returned (.int .i64 (-1)) ∧ Below w.heap.size w w' := by
  rcases hp with ⟨rfl, rfl⟩ | ⟨b, cap, hne, rfl, hcap, hmax, hcell⟩
  · have hb0 := alloc_below w (.cells #[.int .i64 dp, .slice none 0 0, .int .i64 un] ( /- t -/ 104))
    have hbx := Blk.now w #[.int .i64 dp, .slice none 0 0, .int .i64 un] ( /- t -/ 104)
    clear hl hlen hblk hbl
    go_enter Tryz.func75, Tryz.ntmps75
    go_wp2_with fail
    generalize (w.alloc (.cells #[.int .i64 dp, .slice none 0 0, .int .i64 un] ( /- t -/ 104))) = W at *
    have HB := hide hb0
    clear hb0 hbx
    go_loopw [9] (fun iv wr => iv = .int .i64 0 ∧ wr = W) (fun iv _ => 1 - (intOf iv).toNat)
    case atStart => exact ⟨rfl, rfl⟩
    case round =>
      obtain ⟨rfl, rfl⟩ := hrel
      go_wp2_with fail
      go_ret
      exact ⟨rfl, HB.out⟩
  obtain ⟨i0, hi, hz0, hz1, hz2⟩ := info_parts Tryz.info110
  have HI := hide hi
  have HI1 : Hid (i0.size ≠ 0) := by unfold Hid; rw [hz1]; decide
  have HBK := hide hblk
  have HBL := hide hbl
  have HL := hide hl
  clear hi hz0 hz1 hz2 hblk hbl hl
  obtain ⟨n, hn⟩ : ∃ n, n = ps.length := ⟨_, rfl⟩
  have hn41 : n ≤ 41 := by omega
  rw [← hn]
  have HC := hide hcell
  have HN := hide hn
  have hb0 := alloc_below w (.cells #[.int .i64 dp, .slice (some ⟨b, 0, none⟩) n cap, .int .i64 un] ( /- t -/ 104))
  have hbx := Blk.now w #[.int .i64 dp, .slice (some ⟨b, 0, none⟩) n cap, .int .i64 un] ( /- t -/ 104)
  clear hcell hcap hmax hne hlen hn
  go_enter Tryz.func75, Tryz.ntmps75
  go_wp2_with fail
  generalize (w.alloc (.cells #[.int .i64 dp, .slice (some ⟨b, 0, none⟩) n cap, .int .i64 un] ( /- t -/ 104))) = W at *
  have c1 : W.cell? ⟨w.heap.size, 1, none⟩ = some (.slice (some ⟨b, 0, none⟩) n cap) := hbx.cell 1
  have hW : w.heap.size < W.heap.size := hbx.lt
  have HB := hide hb0
  clear hb0 hbx
  go_loopw [9] (fun iv wr => ∃ k : Nat, iv = .int .i64 k ∧ k ≤ n ∧ wr = W) (fun iv _ => n + 1 - (intOf iv).toNat)
  case atStart => exact ⟨0, rfl, Nat.zero_le _, rfl⟩
  case round =>
    obtain ⟨k, rfl, hk, rfl⟩ := hrel
    by_cases hkn : k < n
    · obtain ⟨r, hr⟩ : ∃ r, r + 1 + k = n := ⟨n - 1 - k, by omega⟩
      have hidx : (n : Int) - 1 - k = (r : Nat) := by omega
      have hr0 : (0 : Int) ≤ (r : Nat) := by omega
      have hrn : r < n := by omega
      obtain ⟨x, hx⟩ : ∃ x, ps[r]? = some x := ⟨ps[r]'(by have := HN.out; omega), List.getElem?_eq_getElem (by have := HN.out; omega)⟩
      have z0 : wr.cell? ⟨b, r, none⟩ = some (.pointer (some ⟨x, 0, none⟩)) := (Still.of_below HB.out) _ _ (HC.out _ _ hx)
      have hbw : b < wr.heap.size := World.block_lt_of_cell? _ _ z0
      have hxl : x ≠ l := by
        rintro rfl
        exact HL.out (List.mem_of_getElem? hx)
      obtain ⟨cx, tx, hbx⟩ := HBK.out x (List.mem_of_getElem? hx)
      obtain ⟨cl, tl, hbl⟩ := HBL.out
      have n1 := run_eql_ptr_other (P := Tryz.prog) wr (a := ⟨x, 0, none⟩) (b := ⟨l, 0, none⟩) Tryz.underlying108 HI.out HI1.out (fun e => hxl (by injection e)) ((HB.out.block x (Array.getElem?_eq_some_iff.1 hbx).1).trans hbx) ((HB.out.block l (Array.getElem?_eq_some_iff.1 hbl).1).trans hbl)
      have HKN := hide hkn
      clear hx hr hbx hbl hk
      go_wp2_with fail
      refine ⟨⟨k + 1, by go_num, HKN.out, trivial⟩, ?_⟩
      have h9 := HKN.out
      simp [intOf]
      omega
    · have hge : n ≤ k := by omega
      have hknn : k = n := by omega
      subst hknn
      clear hk hkn
      go_wp2_with fail
      go_ret
      exact ⟨rfl, HB.out⟩
end Go.Proofs.YtgcefippeokmcabGreatDoor.Lo

/- What is written into blocks that are named; a row cut in two. -/
namespace Go.Proofs.YtgcefippeokmcabGreatDoor.Lo
open Go.RowKit

/-- But for the blocks named, what was there is as it was. -/
structure Wr (bs : List Nat) (w w' : World) : Prop where
  os : w'.os = w.os
  tape : w'.tape = w.tape
  output : w'.output = w.output
  size : w.heap.size ≤ w'.heap.size
  block : ∀ k, k < w.heap.size → k ∉ bs → w'.heap[k]? = w.heap[k]?

theorem Wr.refl (bs : List Nat) (w : World) : Wr bs w w := ⟨rfl, rfl, rfl, Nat.le_refl _, fun _ _ _ => rfl⟩
theorem Wr.trans {bs : List Nat} {a b c : World} (h : Wr bs a b) (k : Wr bs b c) : Wr bs a c :=
  ⟨k.os.trans h.os, k.tape.trans h.tape, k.output.trans h.output, Nat.le_trans h.size k.size, fun i hi hc => (k.block i (Nat.lt_of_lt_of_le hi h.size) hc).trans (h.block i hi hc)⟩
theorem Wr.mono {bs cs : List Nat} {a b : World} (h : Wr bs a b) (hs : ∀ x, x ∈ bs → x ∈ cs) : Wr cs a b :=
  ⟨h.os, h.tape, h.output, h.size, fun i hi hc => h.block i hi (fun hm => hc (hs i hm))⟩
theorem Wr.of_below {bs : List Nat} {a b : World} (k : Below a.heap.size a b) : Wr bs a b := ⟨k.os, k.tape, k.output, k.size, fun i hi _ => k.block i hi⟩
theorem Wr.setCell {bs : List Nat} {a b : World} (h : Wr bs a b) {p : Addr} (hp : p.block ∈ bs) (u : Value) : Wr bs a (b.setCell p u) :=
  ⟨h.os, h.tape, h.output, by simpa using h.size, fun i hi hc => (Below.heap_setCell _ _ _ _ (by rintro rfl; exact hc hp)).trans (h.block i hi hc)⟩
theorem Wr.to_below {bs : List Nat} {B : Nat} {a b : World} (h : Wr bs a b) (hB : ∀ x, x ∈ bs → B ≤ x) (hs : B ≤ a.heap.size) : Below B a b :=
  ⟨h.os, h.tape, h.output, h.size, fun k hk => h.block k (by omega) (fun hm => by have := hB k hm; omega)⟩

theorem OwRow.split {w : World} : ∀ (f g : F) (b o : Nat) (bs : List Nat), OwRow w b o (f.app g) bs → ∃ b1 b2, bs = b1 ++ b2 ∧ OwRow w b o f b1 ∧ OwRow w b (o + 5 * f.len) g b2 := by
  intro f
  induction f with
  | nil => intro g b o bs h; exact ⟨[], bs, rfl, rfl, by simpa [F.app, F.len] using h⟩
  | cons lab k fr ix kids rest ihk ihr =>
    intro g b o bs hr
    obtain ⟨h2, h3, h5, h6, c0, c1, c2, c3, ks, rs, rfl, hs, hrest⟩ := hr
    obtain ⟨b1, b2, rfl, q1, q2⟩ := ihr _ _ _ _ hrest
    exact ⟨ks ++ b1, b2, by rw [List.append_assoc], ⟨h2, h3, h5, h6, c0, c1, c2, c3, ks, b1, rfl, hs, q1⟩, by simp only [F.len]; rw [show o + 5 * (rest.len + 1) = o + 5 + 5 * rest.len by omega]; exact q2⟩

theorem Free.lt_cell {w : World} {b n o : Nat} {v : Value} (h : Free w b n) (hc : w.cell? ⟨b, o, none⟩ = some v) : o < n := by
  obtain ⟨cs, t, hh, hn⟩ := h
  rw [cell_of_heap hh] at hc
  have := (Array.getElem?_eq_some_iff.1 hc).1
  omega

end Go.Proofs.YtgcefippeokmcabGreatDoor.Lo

/- Actions, and rows of actions. -/
namespace Go.Proofs.YtgcefippeokmcabGreatDoor.Lo.Ne
open Go.RowKit

structure Act where
  r : ByteArray
  rc : Bool
  p : ByteArray
  l : ByteArray

def Act.wt (a : Act) : Nat := a.r.size + (a.p.size + a.l.size)
def wtA : List Act → Nat
  | [] => 0
  | n :: r => n.wt + wtA r
theorem wtA_app (g : List Act) : ∀ l : List Act, wtA (l ++ g) = wtA l + wtA g
  | [] => by simp [wtA]
  | n :: r => by simp only [List.cons_append, wtA, wtA_app g r]; omega

/-- An action in four cells. -/
def elA : El Act where
  st := 4
  P w b o n := n.r.size ≤ maxLen ∧ n.p.size ≤ maxLen ∧ n.l.size ≤ maxLen ∧
    w.cell? ⟨b, o, none⟩ = some (.string n.r) ∧ w.cell? ⟨b, o + 1, none⟩ = some (.bool n.rc) ∧ w.cell? ⟨b, o + 2, none⟩ = some (.string n.p) ∧ w.cell? ⟨b, o + 3, none⟩ = some (.string n.l)
  still h := fun ⟨l1, l2, l3, c0, c1, c2, c3⟩ => ⟨l1, l2, l3, h _ _ c0, h _ _ c1, h _ _ c2, h _ _ c3⟩
theorem elA_flat : elA.Flat := fun hc ⟨l1, l2, l3, c0, c1, c2, c3⟩ =>
  ⟨l1, l2, l3, (hc 0 (by decide)).trans c0, (hc 1 (by decide)).trans c1, (hc 2 (by decide)).trans c2, (hc 3 (by decide)).trans c3⟩
theorem AtA.head {w : World} {a : Option Addr} {i : Nat} {r p l : ByteArray} {rc : Bool} {rest : List Act} (h : AtG elA w a i (⟨r, rc, p, l⟩ :: rest)) :
    ∃ b o, a = some ⟨b, o, none⟩ ∧ r.size ≤ maxLen ∧ p.size ≤ maxLen ∧ l.size ≤ maxLen ∧
    w.cell? ⟨b, o + i * 4, none⟩ = some (.string r) ∧ w.cell? ⟨b, o + i * 4 + 1, none⟩ = some (.bool rc) ∧ w.cell? ⟨b, o + i * 4 + 2, none⟩ = some (.string p) ∧
    w.cell? ⟨b, o + i * 4 + 3, none⟩ = some (.string l) := h.head
end Go.Proofs.YtgcefippeokmcabGreatDoor.Lo.Ne

/- A block read and written whole, as the walk meets it. -/
namespace Go.Proofs.YtgcefippeokmcabGreatDoor.Lo
open Go.RowKit

section
variable {P : Program} {o : Oper} {a : Act} {next : Act → World → Prop} {Q : Exit → Act → World → Prop} {w : World} {b : Nat} {c c' : Array Value} {t : TypeId} {p x : Operand}

theorem Blk.setRow (h : Blk w b c) (c' : Array Value) : Blk (w.setRow b c') b c' := by
  obtain ⟨t, h⟩ := h
  exact ⟨t, setRow_heap w b c c' t (0, 0) h⟩
theorem Blk.setOther {g : Nat} (h : Blk w b c) (hne : b ≠ g) (c' : Array Value) : Blk (w.setRow g c') b c := h.same (setRow_other w g b c' hne)
theorem Blk.setOtherCell (h : Blk w b c) {q : Addr} (hq : b ≠ q.block) (v : Value) : Blk (w.setCell q v) b c := h.same (Below.heap_setCell _ _ _ _ hq)
theorem run_store_blk (hb : Blk w b c) (hi : (P.info? t).map (·.size) = some c'.size) (hsz : c.size = c'.size) (h1 : c'.all (·.oneCell') = true) :
    (Instr.storeAt t (.pointer (some ⟨b, 0, none⟩)) (.agg c')).run P w = .ok () (w.setRow b c') := by
  obtain ⟨te, hb⟩ := hb
  simp only [Instr.storeAt, Instr.sureAddr, Sem.run_bind, Sem.run_pure, Result.andThen]
  exact run_storeVar_row w b te t c c' hb hi hsz h1
theorem wp_store_blk (hop : o.op = .store t p x) (hb : Blk w b c) (hp : a.eval p = .pointer (some ⟨b, 0, none⟩)) (hx : a.eval x = .agg c') (hi : (P.info? t).map (·.size) = some c'.size) (hsz : c.size = c'.size)
    (h1 : c'.all (·.oneCell') = true) (h : next (a.put o.dst undef) (w.setRow b c')) : Oper.wp P o a w next Q := by
  unfold Oper.wp
  simp only [execOp, hop, hp, hx, run_store_blk hb hi hsz h1, Sem.run_bind, Sem.run_pure, Result.andThen]
  exact h
theorem wpList_store_blk {ops : Array Oper} {rest : List Oper} (hg : o.guard = none) (hop : o.op = .store t p x) (hb : Blk w b c) (hp : a.eval p = .pointer (some ⟨b, 0, none⟩)) (hx : a.eval x = .agg c')
    (hi : (P.info? t).map (·.size) = some c'.size) (hsz : c.size = c'.size) (h1 : c'.all (·.oneCell') = true) (h : wpList P ops Q rest (a.put o.dst undef) (w.setRow b c')) : wpList P ops Q (o :: rest) a w := by
  refine wpList_plain hg fun K' hK' => ?_
  unfold Oper.wp
  simp only [execOp, hop, hp, hx, run_store_blk hb hi hsz h1, Sem.run_bind, Sem.run_pure, Result.andThen]
  exact hK' _ _ h
theorem run_load_blk {d : TypeDesc} (hb : Blk w b c) (hu : P.underlying t = some d) (hd : (match d with | .struct _ | .array _ _ => true | _ => false) = true) (hi : (P.info? t).map (·.size) = some c.size) :
    (Instr.loadAt t (.pointer (some ⟨b, 0, none⟩))).run P w = .ok (.agg c) w := by
  obtain ⟨te, hb⟩ := hb
  simp only [Instr.loadAt, Instr.sureAddr, Sem.run_bind, Sem.run_pure, Result.andThen]
  exact run_loadVar_row w b te t c (0, 0) d hb hu hd hi
theorem wpList_load_blk {ops : Array Oper} {rest : List Oper} {d : TypeDesc} (hg : o.guard = none) (hop : o.op = .load t p) (hb : Blk w b c) (hp : a.eval p = .pointer (some ⟨b, 0, none⟩))
    (hu : P.underlying t = some d) (hd : (match d with | .struct _ | .array _ _ => true | _ => false) = true) (hi : (P.info? t).map (·.size) = some c.size) (h : wpList P ops Q rest (a.put o.dst (.agg c)) w) : wpList P ops Q (o :: rest) a w := by
  refine wpList_plain hg fun K' hK' => ?_
  unfold Oper.wp
  simp only [execOp, hop, hp, run_load_blk hb hu hd hi, Sem.run_bind, Sem.run_pure, Result.andThen]
  exact hK' _ _ h
/-- A struct that lies in a block, and a number beside it: what a function hands back. -/
theorem results_blk {fn : Func} {r u : Tmp} {d : TypeDesc} (hf : fn.results = #[.cell r t, .tmp u]) {tmps : Array Value} (hr : tmps.getD r undef = .pointer (some ⟨b, 0, none⟩)) (hb : Blk w b c)
    (hu : P.underlying t = some d) (hd : (match d with | .struct _ | .array _ _ => true | _ => false) = true) (hi : (P.info? t).map (·.size) = some c.size) :
    (results fn tmps).run P w = .ok (.tuple #[.agg c, tmps.getD u undef]) w := by
  have h := run_load_blk hb hu hd hi
  simp only [Instr.loadAt, Instr.sureAddr, Sem.run_bind, Sem.run_pure, Result.andThen] at h
  have hr' : tmps[r]?.getD undef = .pointer (some ⟨b, 0, none⟩) := by simpa using hr
  simp [results, hf, hr', h, asAddr]
end
end Go.Proofs.YtgcefippeokmcabGreatDoor.Lo

/- szLocal. -/
namespace Go.Proofs.YtgcefippeokmcabGreatDoor.Lo
open Go.RowKit

/-- The number that is left, or -1. -/
def left0 (l : Int) (n : Nat) : Int := if l < n then -1 else l - n

/-- What szLocalBranchS is for: a slice. -/
def SzS (f : F) : Prop := ∀ (w : World) (v : Value) (left : Int), Sl w v f → 0 ≤ left → left ≤ 1048576 →
  Calls Tryz.prog 24 #[v, .int .i64 left] w fun e w' => e = .returned (.int .i64 (left0 left (f.len + f.wt))) ∧ Below w.heap.size w w'

set_option maxHeartbeats 400000 in
theorem sz_node (kids : F) (hk : SzS kids) (w : World) (k ix : Int) (fr : ByteArray) (sv : Value) (left : Int) (hs : Sl w sv kids) (hl0 : 0 ≤ left) (hl1 : left ≤ 1048576)
    (hfr : fr.size ≤ maxLen) :
    Calls Tryz.prog 13 #[.agg #[.int .i64 k, .string fr, .int .i64 ix, sv], .int .i64 left] w
      fun e w' => e = .returned (.int .i64 (left0 left (fr.size + (kids.len + kids.wt)))) ∧ Below w.heap.size w w' := by
  unfold maxLen at hfr
  have HS := hide hs
  clear hs
  go_enter Tryz.func13, Tryz.ntmps13
  go_wp2_with fail
  · go_ret
    exact ⟨ret_int (by unfold left0; rw [if_pos (by omega)]), alloc_below _ _⟩
  · have h1 : 0 ≤ left - fr.size := by assumption
    refine (hk _ _ _ (HS.out.still (Still.of_below (alloc_below _ _))) h1 (by omega)).mono ?_
    rintro e w1 ⟨rfl, hb⟩
    obtain ⟨r, hr⟩ : ∃ r, r = left0 (left - fr.size) (kids.len + kids.wt) := ⟨_, rfl⟩
    have HR := hide hr
    rw [← hr]
    clear hr
    go_wp2_with fail
    · go_ret
      refine ⟨ret_int ?_, alloc_then hb⟩
      have := HR.out
      unfold left0 at *
      split at this <;> (try split) <;> omega
    · go_ret
      refine ⟨ret_int ?_, alloc_then hb⟩
      have := HR.out
      unfold left0 at *
      split at this <;> (try split) <;> omega

set_option maxHeartbeats 400000 in
theorem sz_branch (kids : F) (hk : SzS kids) (w : World) (lab : ByteArray) (k ix : Int) (fr : ByteArray) (sv : Value) (left : Int) (hs : Sl w sv kids) (hl0 : 0 ≤ left) (hl1 : left ≤ 1048576)
    (hlab : lab.size ≤ maxLen) (hfr : fr.size ≤ maxLen) :
    Calls Tryz.prog 38 #[.agg #[.string lab, .int .i64 k, .string fr, .int .i64 ix, sv], .int .i64 left] w
      fun e w' => e = .returned (.int .i64 (left0 left (lab.size + (fr.size + (kids.len + kids.wt))))) ∧ Below w.heap.size w w' := by
  have HS := hide hs
  have h2 := hide hfr
  clear hs hfr
  unfold maxLen at hlab
  go_enter Tryz.func38, Tryz.ntmps38
  go_wp2_with fail
  · go_ret
    exact ⟨ret_int (by unfold left0; rw [if_pos (by omega)]), alloc_below _ _⟩
  · have h1 : 0 ≤ left - lab.size := by assumption
    refine (sz_node kids hk _ k ix fr sv _ (HS.out.still (Still.of_below (alloc_below _ _))) h1 (by omega) h2.out).mono ?_
    rintro e w1 ⟨rfl, hb⟩
    obtain ⟨r, hr⟩ : ∃ r, r = left0 (left - lab.size) (fr.size + (kids.len + kids.wt)) := ⟨_, rfl⟩
    have HR := hide hr
    rw [← hr]
    clear hr
    go_wp2_with fail
    · go_ret
      refine ⟨ret_int ?_, alloc_then hb⟩
      have := HR.out
      unfold left0 at *
      split at this <;> (try split) <;> omega
    · go_ret
      refine ⟨ret_int ?_, alloc_then hb⟩
      have := HR.out
      unfold left0 at *
      split at this <;> (try split) <;> omega

set_option maxHeartbeats 800000 in
theorem sz_slice_lt : ∀ (n : Nat) (f : F), f.sz < n → SzS f := by
  intro n
  induction n with
  | zero => intro f hf; omega
  | succ n ih => 
    intro f hf w v left hs hl0 hl1
    obtain ⟨a, cap, rfl, hlen, hat⟩ := hs.at
    have HA := hide hat
    clear hs hat
    unfold maxLen at hlen
    go_enter Tryz.func24, Tryz.ntmps24
    go_wp2_with fail
    · have h1 : left - f.len < 0 := by assumption
      go_ret
      exact ⟨ret_int (by unfold left0; rw [if_pos (by omega)]), Below.refl _ _⟩
    · have h1 : 0 ≤ left - f.len := by assumption
      go_loopw [1, 5] (fun lv iv wr => ∃ (g : F) (k : Nat) (l : Int), k + g.len = f.len ∧ lv = .int .i64 l ∧ iv = .int .i64 k ∧ 0 ≤ l ∧ l ≤ 1048576 ∧ left0 l g.wt = left0 left (f.len + f.wt) ∧ g.sz ≤ f.sz ∧ At w a k g ∧ Below w.heap.size w wr) (fun _ iv _ => f.len - (intOf iv).toNat)
      case atStart => 
        refine ⟨f, 0, left - f.len, by omega, rfl, rfl, by omega, by omega, ?_, Nat.le_refl _, HA.out, Below.refl _ _⟩
        unfold left0
        split <;> split <;> omega
      case round =>
        obtain ⟨g, k, l, hk, rfl, rfl, h2, h3, h4, h5, h6, hb⟩ := hrel
        have H4 := hide h4
        clear h4
        cases g with
        | nil =>
          have H5 : Hid (k = f.len) := by unfold Hid; simpa [F.len] using hk
          have hge : f.len ≤ k := Nat.le_of_eq H5.out.symm
          clear hk
          go_wp2_with fail
          go_ret
          refine ⟨ret_int ?_, hb⟩
          have := H4.out
          simp only [F.wt] at this
          rw [← this]
          unfold left0
          rw [if_neg (by omega)]
          omega
        | cons lab kd fr ix kids rest =>
          have HK : Hid (k + 1 + rest.len = f.len) := by unfold Hid; simp only [F.len] at hk; omega
          have hlt : k < f.len := by have := HK.out; omega
          have hz : kids.sz < n ∧ rest.sz ≤ f.sz := by simp only [F.sz] at h5; omega
          have HZ := hide hz
          obtain ⟨b, o, rfl, l1, l2, _, _, c0, c1, c2, c3, ⟨sv, c4, hsv⟩, _⟩ := (h6.still (Still.of_below hb)).head
          have HSV := hide hsv
          have HRE := hide h6.tail
          clear hk h5 h6 hz hsv
          go_wp2_with fail
          refine (sz_branch kids (ih kids HZ.out.1) _ lab kd ix fr sv l HSV.out h2 h3 l1 l2).mono ?_
          rintro e w1 ⟨rfl, hb1⟩
          obtain ⟨r, hr⟩ : ∃ r, r = left0 l (lab.size + (fr.size + (kids.len + kids.wt))) := ⟨_, rfl⟩
          have HR := hide hr
          rw [← hr]
          clear hr
          have hb2 : Below w.heap.size w w1 := hb.trans (hb1.mono hb.size)
          go_wp2_with fail
          · go_ret
            refine ⟨ret_int ?_, hb2⟩
            have := HR.out
            have h4 := H4.out
            simp only [F.wt] at h4
            rw [← h4]
            unfold left0 at *
            split at this <;> (try split) <;> omega
          · have h7 : 0 ≤ r := by assumption
            go_roundw
            case rel =>
              refine ⟨rest, k + 1, r, by have := HK.out; omega, rfl, by go_num, h7, ?_, ?_, HZ.out.2, HRE.out, hb2⟩
              · have := HR.out
                unfold left0 at this
                split at this <;> omega
              · have := HR.out
                have h4 := H4.out
                simp only [F.wt] at h4
                rw [← h4]
                unfold left0 at *
                split at this <;> (try split) <;> (try split) <;> omega
            case measure => simp [intOf]; omega

/-- szLocal. -/
theorem sz_calls (kids : F) (w : World) (k ix : Int) (fr : ByteArray) (sv : Value) (left : Int) (hs : Sl w sv kids) (hl0 : 0 ≤ left) (hl1 : left ≤ 1048576)
    (hfr : fr.size ≤ maxLen) :
    Calls Tryz.prog 13 #[.agg #[.int .i64 k, .string fr, .int .i64 ix, sv], .int .i64 left] w
      fun e w' => e = .returned (.int .i64 (left0 left (fr.size + (kids.len + kids.wt)))) ∧ Below w.heap.size w w' :=
  sz_node kids (sz_slice_lt _ kids (Nat.lt_succ_self _)) w k ix fr sv left hs hl0 hl1 hfr

end Go.Proofs.YtgcefippeokmcabGreatDoor.Lo

/- szMonitor. -/
namespace Go.Proofs.YtgcefippeokmcabGreatDoor.Lo.Ne
open Go.RowKit

set_option maxHeartbeats 400000 in
theorem sz_mon (kids : F) (w : World) (lab : ByteArray) (k ix : Int) (fr : ByteArray) (sv : Value) (left : Int) (hs : Sl w sv kids) (hl0 : 0 ≤ left) (hl1 : left ≤ 1048576)
    (hlab : lab.size ≤ maxLen) (hfr : fr.size ≤ maxLen) :
    Calls Tryz.prog 4 #[.agg #[.string lab, .int .i64 k, .string fr, .int .i64 ix, sv], .int .i64 left] w
      fun e w' => e = .returned (.int .i64 (left0 left (lab.size + (fr.size + (kids.len + kids.wt))))) ∧ Below w.heap.size w w' := by
  have HS := hide hs
  have h2 := hide hfr
  clear hs hfr
  unfold maxLen at hlab
  go_enter Tryz.func4, Tryz.ntmps4
  go_wp2_with fail
  · go_ret
    exact ⟨ret_int (by unfold left0; rw [if_pos (by omega)]), alloc_below _ _⟩
  · have h1 : 0 ≤ left - lab.size := by assumption
    refine (sz_calls kids _ k ix fr sv _ (HS.out.still (Still.of_below (alloc_below _ _))) h1 (by omega) h2.out).mono ?_
    rintro e w1 ⟨rfl, hb⟩
    obtain ⟨r, hr⟩ : ∃ r, r = left0 (left - lab.size) (fr.size + (kids.len + kids.wt)) := ⟨_, rfl⟩
    have HR := hide hr
    rw [← hr]
    clear hr
    go_wp2_with fail
    · go_ret
      refine ⟨ret_int ?_, alloc_then hb⟩
      have := HR.out
      unfold left0 at *
      split at this <;> (try split) <;> omega
    · go_ret
      refine ⟨ret_int ?_, alloc_then hb⟩
      have := HR.out
      unfold left0 at *
      split at this <;> (try split) <;> omega

end Go.Proofs.YtgcefippeokmcabGreatDoor.Lo.Ne

/- toLocal: a copy in new memory. -/
namespace Go.Proofs.YtgcefippeokmcabGreatDoor.Lo
open Go.RowKit

def ToS (f : F) : Prop := ∀ (w : World) (v : Value), Sl w v f → f.len + f.wt ≤ 1048576 → Calls Tryz.prog 31 #[v] w (MadeS f w)

set_option maxHeartbeats 400000 in
theorem to_node (kids : F) (hk : ToS kids) (w : World) (k ix : Int) (fr : ByteArray) (sv : Value) (hs : Sl w sv kids) (hw : kids.len + kids.wt ≤ 1048576) :
    Calls Tryz.prog 18 #[.agg #[.int .i64 k, .string fr, .int .i64 ix, sv]] w (MadeN k fr ix kids w) := by
  have HS := hide hs
  clear hs
  go_enter Tryz.func18, Tryz.ntmps18
  go_wp2_with fail
  refine (hk _ _ (HS.out.still (Still.of_below ?_)) hw).mono ?_
  · exact ((alloc_below _ _).alloc (by simp) _).alloc (by simp; omega) _
  rintro e w1 ⟨u, bs, rfl, how, hge, hnd, hb⟩
  obtain ⟨ua, uc, rfl⟩ := how.val
  have HO := hide how
  have HG := hide hge
  clear how hge
  obtain ⟨hc, hf⟩ := bcell hb
  go_wp2_with fail
  refine bodyPost_ret (v := .agg #[.int .i64 k, .string fr, .int .i64 ix, .slice ua kids.len uc]) (by simp [results, Tryz.results18, go_sem, hc]) rfl ?_
  have hz := hb.size
  simp at hz
  have hB : Below w.heap.size w w1 := ((((alloc_below w _).alloc (by simp) _).alloc (by simp; omega) _).trans (hb.mono (by simp; omega)))
  refine ⟨_, bs, rfl, HO.out.same ?_, fun b h => by have := HG.out b h; simp at this; omega, hnd, ?_⟩
  · have q : ∀ b, b ∈ bs → w.heap.size + 3 ≤ b := fun b h => by have := HG.out b h; simp at this; omega
    repeat (refine Same.setCell ?_ (fun b h => by have := q b h; simp; omega) _)
    exact Same.refl _ _
  · repeat (refine Below.setCell ?_ (by first | (simp; done) | (simp; omega)) _)
    exact hB

set_option maxHeartbeats 400000 in
theorem to_branch (kids : F) (hk : ToS kids) (w : World) (lab : ByteArray) (k ix : Int) (fr : ByteArray) (sv : Value) (hs : Sl w sv kids) (hw : kids.len + kids.wt ≤ 1048576) :
    Calls Tryz.prog 42 #[.agg #[.string lab, .int .i64 k, .string fr, .int .i64 ix, sv]] w (MadeB lab k fr ix kids w) := by
  have HS := hide hs
  clear hs
  go_enter Tryz.func42, Tryz.ntmps42
  go_wp2_with fail
  refine (to_node kids hk _ k ix fr sv (HS.out.still (Still.of_below ?_)) hw).mono ?_
  · exact ((alloc_below _ _).alloc (by simp) _).alloc (by simp; omega) _
  rintro e w1 ⟨u, bs, rfl, how, hge, hnd, hb⟩
  obtain ⟨ua, uc, rfl⟩ := how.val
  have HO := hide how
  have HG := hide hge
  clear how hge
  obtain ⟨hc, hf⟩ := bcell hb
  go_wp2_with fail
  refine bodyPost_ret (v := .agg #[.string lab, .int .i64 k, .string fr, .int .i64 ix, .slice ua kids.len uc]) (by simp [results, Tryz.results42, go_sem, hc]) rfl ?_
  have hz := hb.size
  simp at hz
  have hB : Below w.heap.size w w1 := ((((alloc_below w _).alloc (by simp) _).alloc (by simp; omega) _).trans (hb.mono (by simp; omega)))
  have q : ∀ b, b ∈ bs → w.heap.size + 3 ≤ b := fun b h => by have := HG.out b h; simp at this; omega
  refine ⟨_, bs, rfl, HO.out.same ?_, fun b h => by have := q b h; omega, hnd, ?_⟩
  · repeat (refine Same.setCell ?_ (fun b h => by have := q b h; simp; omega) _)
    exact Same.refl _ _
  · repeat (refine Below.setCell ?_ (by first | (simp; done) | (simp; omega)) _)
    exact hB

/-- What holds at each round's head: the branches up to the place are copied. -/
def ToRel (w : World) (a : Option Addr) (f : F) (iv : Value) (wr : World) : Prop :=
  ∃ p g bs, f = p.app g ∧ iv = .int .i64 (p.len : Nat) ∧ At w a p.len g ∧ Free wr w.heap.size (f.len * 5) ∧ OwRow wr w.heap.size 0 p bs ∧ (∀ b, b ∈ bs → w.heap.size < b) ∧ bs.Nodup ∧ Below w.heap.size w wr

theorem to_start (w : World) (a : Option Addr) (f : F) (h : At w a 0 f) : ToRel w a f (.int .i64 0) (w.alloc (.cells (newRow f.len) ( /- t -/ 67))) :=
  ⟨.nil, f, [], rfl, rfl, h, ⟨newRow f.len, ( /- t -/ 67), by show (w.heap.push _)[w.heap.size]? = _; simp, size_madeCells _ _⟩, rfl, fun _ h => absurd h (List.not_mem_nil), List.nodup_nil, alloc_below _ _⟩

/-- One round more. -/
theorem to_step {w wr w1 : World} {a : Option Addr} {p kids rest : F} {bs ks : List Nat} {lab fr : ByteArray} {k ix : Int} {u : Value}
    (hat : At w a p.len (.cons lab k fr ix kids rest)) (hfree : Free wr w.heap.size ((p.app (.cons lab k fr ix kids rest)).len * 5)) (hown : OwRow wr w.heap.size 0 p bs) (hgt : ∀ b, b ∈ bs → w.heap.size < b) (hnd : bs.Nodup) (hb : Below w.heap.size w wr)
    (hu : Ow w1 u kids ks) (hks : ∀ b, b ∈ ks → wr.heap.size ≤ b) (hknd : ks.Nodup) (hb1 : Below wr.heap.size wr w1) :
    ToRel w a (p.app (.cons lab k fr ix kids rest)) (.int .i64 ((p.len + 1 : Nat) : Int)) (set5 w1 w.heap.size (p.len * 5) (.string lab) (.int .i64 k) (.string fr) (.int .i64 ix) u) := by
  have hsz := hb.size
  have hlt : w.heap.size < wr.heap.size := hfree.lt
  have hf1 : Free w1 w.heap.size ((p.app (.cons lab k fr ix kids rest)).len * 5) := hfree.below hb1
  obtain ⟨s0, c0, c1, c2, c3, c4, hfree2⟩ := set5_heap hf1 (p.len * 5) (by rw [F.len_app]; simp only [F.len]; omega) (.string lab) (.int .i64 k) (.string fr) (.int .i64 ix) u
  have hbs : ∀ b, b ∈ bs → b < wr.heap.size := hown.lt _ _ _ _
  have hsame : Same wr (set5 w1 w.heap.size (p.len * 5) (.string lab) (.int .i64 k) (.string fr) (.int .i64 ix) u) bs := fun x hx => by
    rw [set5_other _ _ _ _ _ _ _ _ _ (by have := hgt x hx; omega)]
    exact hb1.block x (hbs x hx)
  have hsame1 : Same w1 (set5 w1 w.heap.size (p.len * 5) (.string lab) (.int .i64 k) (.string fr) (.int .i64 ix) u) ks := fun x hx =>
    set5_other _ _ _ _ _ _ _ _ _ (by have := hks x hx; omega)
  obtain ⟨_, _, _, z1, z2, z4, z5, _⟩ := hat.head
  obtain ⟨ua, uc, rfl, e1, e2, hk⟩ := hu.same hsame1
  refine ⟨p.app (.cons lab k fr ix kids .nil), rest, bs ++ ks, by rw [F.app_assoc]; rfl, by rw [F.len_app]; rfl, ?_, hfree2, ?_, ?_, ?_, ?_⟩
  · rw [F.len_app]
    exact hat.tail
  · refine OwRow.app _ _ _ _ _ _ (hown.same _ _ _ _ (fun i hi => ?_) hsame) ?_
    · rw [s0 _ (by omega)]
      exact hb1.cell (p := ⟨w.heap.size, 0 + i, none⟩) hlt
    · rw [show 0 + 5 * p.len = p.len * 5 by omega]
      exact ⟨z1, z2, z4, z5, c0, c1, c2, c3, ks, [], by simp, ⟨ua, uc, c4, e1, e2, hk⟩, rfl⟩
  · intro b hm
    rcases List.mem_append.1 hm with hm | hm
    · exact hgt b hm
    · have := hks b hm
      omega
  · refine List.nodup_append.2 ⟨hnd, hknd, fun x hx y hy => ?_⟩
    have := hbs x hx
    have := hks y hy
    omega
  · exact set5_below (hb.trans (hb1.mono hsz)) _ _ (Nat.le_refl _) _ _ _ _ _

theorem to_end {w wr : World} {a : Option Addr} {f : F} {iv : Value} (h : ToRel w a f iv wr) (hlen : f.len ≤ maxLen) (hge : ∀ k : Nat, iv = .int .i64 k → f.len ≤ k) : MadeS f w (.returned (.slice (some ⟨w.heap.size, 0, none⟩) f.len f.len)) wr := by
  obtain ⟨p, g, bs, rfl, rfl, hat, hfree, hown, hgt, hnd, hb⟩ := h
  have hl := hge _ rfl
  rw [F.len_app] at hl
  have hg : g = .nil := by cases g with | nil => rfl | cons => simp only [F.len] at hl; omega
  subst hg
  rw [F.app_nil] at *
  cases p with
  | nil => exact ⟨_, [], rfl, ⟨_, _, rfl, Nat.le_refl _, hlen, Or.inl ⟨rfl, rfl⟩⟩, fun _ h => absurd h (List.not_mem_nil), List.nodup_nil, hb⟩
  | cons lab k fr ix kids rest =>
    refine ⟨_, w.heap.size :: bs, rfl, ⟨_, _, rfl, Nat.le_refl _, hlen, Or.inr ⟨_, _, bs, rfl, rfl, hfree, by simp, hown⟩⟩, fun b h => ?_, List.nodup_cons.2 ⟨fun h => ?_, hnd⟩, hb⟩
    · rcases List.mem_cons.1 h with rfl | h
      · exact Nat.le_refl _
      · exact Nat.le_of_lt (hgt b h)
    · exact absurd (hgt _ h) (Nat.lt_irrefl _)

set_option maxHeartbeats 800000 in
theorem to_slice_lt : ∀ (n : Nat) (f : F), f.sz < n → ToS f := by
  intro n
  induction n with
  | zero => intro f hf; omega
  | succ n ih => 
    intro f hf w v hs hw
    obtain ⟨a, cap, rfl, hlen, hat⟩ := hs.at
    have HA := hide hat
    have hfl : f.len ≤ 1048576 := by omega
    have HF := hide hf
    clear hs hat hf
    have hmk := make52 f.len hfl
    go_enter Tryz.func31, Tryz.ntmps31
    go_wp2_with fail
    clear hmk
    go_loopw [4] (fun iv wr => ToRel w a f iv wr) (fun iv _ => f.len - (intOf iv).toNat)
    case atStart => exact to_start w a f HA.out
    case round =>
      obtain ⟨p, g, bs, hfe, rfl, hg, hfree, hown, hgt, hnd, hb⟩ := hrel
      have HE := hide hfe
      have HO := hide hown
      have HG := hide hgt
      clear hfe hown hgt
      cases g with
      | nil =>
        have hge : f.len ≤ p.len := by rw [HE.out, F.app_nil]; exact Nat.le_refl _
        go_wp2_with fail
        go_ret
        exact to_end ⟨p, .nil, bs, HE.out, rfl, hg, hfree, HO.out, HG.out, hnd, hb⟩ hlen (fun k e => by injection e with _ e; omega)
      | cons lab kd fr ix kids rest =>
        have hlt : p.len < f.len := by rw [HE.out, F.len_app]; simp only [F.len]; omega
        have hz : kids.sz < n ∧ kids.len + kids.wt ≤ 1048576 := by
          have h1 := HF.out
          rw [HE.out, F.sz_app] at h1
          rw [HE.out, F.len_app, F.wt_app] at hw
          simp only [F.sz, F.len, F.wt] at h1 hw
          omega
        have HZ := hide hz
        obtain ⟨b, o, rfl, l1, l2, _, _, c0, c1, c2, c3, ⟨sv, c4, hsv⟩, _⟩ := (hg.still (Still.of_below hb)).head
        have HSV := hide hsv
        have HT := hide hg
        clear hz hsv hg
        go_wp2_with fail
        refine (to_branch kids (ih kids HZ.out.1) _ lab kd ix fr sv HSV.out HZ.out.2).mono ?_
        rintro e w1 ⟨u, ks, rfl, how, hks, hknd, hb1⟩
        obtain ⟨ua, uc, rfl⟩ := how.val
        have hf1 := hfree.below hb1
        have fz : ∀ o, w1.frozen? ⟨w.heap.size, o, none⟩ = false := fun o => hf1.frozen
        obtain ⟨x0, d0⟩ := hf1.cell (o := p.len * 5) (by omega)
        obtain ⟨x1, d1⟩ := hf1.cell (o := p.len * 5 + 1) (by omega)
        obtain ⟨x2, d2⟩ := hf1.cell (o := p.len * 5 + 2) (by omega)
        obtain ⟨x3, d3⟩ := hf1.cell (o := p.len * 5 + 3) (by omega)
        obtain ⟨x4, d4⟩ := hf1.cell (o := p.len * 5 + 4) (by omega)
        have HU := hide how
        have HK := hide hks
        clear how hks
        go_wp2_with fail
        refine ⟨?_, by simp [intOf]; omega⟩
        rw [HE.out] at hfree ⊢
        exact to_step HT.out hfree HO.out HG.out hnd hb HU.out HK.out hknd hb1

/-- toLocal. -/
theorem to_calls (kids : F) (w : World) (k ix : Int) (fr : ByteArray) (sv : Value) (hs : Sl w sv kids) (hw : kids.len + kids.wt ≤ 1048576) :
    Calls Tryz.prog 18 #[.agg #[.int .i64 k, .string fr, .int .i64 ix, sv]] w (MadeN k fr ix kids w) :=
  to_node kids (to_slice_lt _ kids (Nat.lt_succ_self _)) w k ix fr sv hs hw

end Go.Proofs.YtgcefippeokmcabGreatDoor.Lo

/- toMonitor. -/
namespace Go.Proofs.YtgcefippeokmcabGreatDoor.Lo.Ne
open Go.RowKit

set_option maxHeartbeats 400000 in
theorem to_mon (kids : F) (w : World) (lab : ByteArray) (k ix : Int) (fr : ByteArray) (sv : Value) (hs : Sl w sv kids) (hw : kids.len + kids.wt ≤ 1048576) :
    Calls Tryz.prog 7 #[.agg #[.string lab, .int .i64 k, .string fr, .int .i64 ix, sv]] w (MadeB lab k fr ix kids w) := by
  have HS := hide hs
  clear hs
  go_enter Tryz.func7, Tryz.ntmps7
  go_wp2_with fail
  refine (to_calls kids _ k ix fr sv (HS.out.still (Still.of_below ?_)) hw).mono ?_
  · exact ((alloc_below _ _).alloc (by simp) _).alloc (by simp; omega) _
  rintro e w1 ⟨u, bs, rfl, how, hge, hnd, hb⟩
  obtain ⟨ua, uc, rfl⟩ := how.val
  have HO := hide how
  have HG := hide hge
  clear how hge
  obtain ⟨hc, hf⟩ := bcell hb
  go_wp2_with fail
  refine bodyPost_ret (v := .agg #[.string lab, .int .i64 k, .string fr, .int .i64 ix, .slice ua kids.len uc]) (by simp [results, Tryz.results7, go_sem, hc]) rfl ?_
  have hz := hb.size
  simp at hz
  have hB : Below w.heap.size w w1 := ((((alloc_below w _).alloc (by simp) _).alloc (by simp; omega) _).trans (hb.mono (by simp; omega)))
  have q : ∀ b, b ∈ bs → w.heap.size + 3 ≤ b := fun b h => by have := HG.out b h; simp at this; omega
  refine ⟨_, bs, rfl, HO.out.same ?_, fun b h => by have := q b h; omega, hnd, ?_⟩
  · repeat (refine Same.setCell ?_ (fun b h => by have := q b h; simp; omega) _)
    exact Same.refl _ _
  · repeat (refine Below.setCell ?_ (by first | (simp; done) | (simp; omega)) _)
    exact hB

end Go.Proofs.YtgcefippeokmcabGreatDoor.Lo.Ne

/- One action: what the law reckons of it, its copy. -/
namespace Go.Proofs.YtgcefippeokmcabGreatDoor.Lo.Ne
open Go.RowKit

/-! ### szAction -/

/-- The number that is left, or -1. -/
def leftA (l : Int) (n : Nat) : Int := if l < n then -1 else l - n

set_option maxHeartbeats 400000 in
theorem szAct (w : World) (r p l : ByteArray) (rc : Bool) (left : Int) (hl0 : 0 ≤ left) (hl1 : left ≤ 1048576) (h1 : r.size ≤ maxLen) (h2 : p.size ≤ maxLen) (h3 : l.size ≤ maxLen) :
    Calls Tryz.prog 5 #[.agg #[.string r, .bool rc, .string p, .string l], .int .i64 left] w
      fun e w' => e = .returned (.int .i64 (leftA left (r.size + (p.size + l.size)))) ∧ Below w.heap.size w w' := by
  unfold maxLen at h1 h2 h3
  go_enter Tryz.func5, Tryz.ntmps5
  go_wp2_with fail
  all_goals
    go_ret
    exact ⟨ret_int (by unfold leftA; split <;> omega), alloc_below _ _⟩

set_option maxHeartbeats 400000 in
theorem toAct (w : World) (r p l : ByteArray) (rc : Bool) :
    Calls Tryz.prog 8 #[.agg #[.string r, .bool rc, .string p, .string l]] w
      fun e w' => e = .returned (.agg #[.string r, .bool rc, .string p, .string l]) ∧ Below w.heap.size w w' := by
  go_enter Tryz.func8, Tryz.ntmps8
  go_wp2_with fail
  refine bodyPost_ret (v := .agg #[.string r, .bool rc, .string p, .string l]) (by simp [results, Tryz.results8, go_sem]) rfl ⟨rfl, ?_⟩
  repeat (refine Below.setCell ?_ (by first | (simp; done) | (simp; omega)) _)
  exact ((alloc_below w _).alloc (by simp) _).alloc (by simp; omega) _

end Go.Proofs.YtgcefippeokmcabGreatDoor.Lo.Ne
