/- LQs, LSm, LUy, LUz, LKt, LKe, LIx, LKi, LKn, LKm, LKk -/
import Derived.Test.YtgcefippeokmcaaDoorJ11
import Derived.StillTailTactics
import Derived.Test.YtgcefippeokmcaaDoorJ00
import Derived.Test.YtgcefippeokmcaaDoorJ09
import Derived.Test.YtgcefippeokmcaaDoorJ05
import Derived.LaidEqlPtr
import Derived.Deep.CutRange
import Derived.Deep.RegionHeld3
import Derived.Deep.RegionWith
/- LocalEqual of the program. -/
namespace Go.Proofs.YtgcefippeokmcaaDoor.Lo
open Go.RowKit

set_option maxHeartbeats 800000 in
/-- LocalEqual of the program, at trees whose memory is the call's own. -/
theorem implSame (w : World) (k ix k' ix' : Int) (fr fr' : ByteArray) (u u' : Value) (f f' : F) (bs bs' : List Nat) (h : Ow w u f bs) (h' : Ow w u' f' bs') (hsz : f.sz ≤ 1048576) :
    Calls Tryd.prog 16 #[.agg #[.int .i64 k, .string fr, .int .i64 ix, u], .agg #[.int .i64 k', .string fr', .int .i64 ix', u']] w
      fun e w' => e = .returned (.bool (sameN k fr ix f k' fr' ix' f')) ∧ Below w.heap.size w w' := by
  obtain ⟨a, c, rfl⟩ := h.val
  obtain ⟨a', c', rfl⟩ := h'.val
  have hb0 := (alloc_below w (.cells #[.int .i64 k, .string fr, .int .i64 ix, .slice a f.len c] ( /- t -/ 25))).alloc (by simp) (.cells #[.int .i64 k', .string fr', .int .i64 ix', .slice a' f'.len c'] ( /- t -/ 25))
  have HU := hide (h.same (Same.of_below hb0 (fun b hb => h.lt b hb)))
  have HU' := hide (h'.same (Same.of_below hb0 (fun b hb => h'.lt b hb)))
  clear h h'
  go_enter Tryd.func16, Tryd.ntmps16
  go_wp2_with fail
  refine (same_walk _ k ix k' ix' fr fr' a a' c c' f f' ⟨⟨_, HU.out⟩, _, HU'.out⟩ hsz).mono ?_
  rintro e w1 ⟨rfl, hb⟩
  have hb2 := hb0.trans (hb.mono hb0.size)
  clear hb0 hb
  go_wp2_with fail
  go_ret
  exact ⟨rfl, hb2⟩
end Go.Proofs.YtgcefippeokmcaaDoor.Lo

/- How large the unfolding of a small tree may get, if it is not high: the recursions at the root are reached by jumps to ever outer ones, and each jump costs levels. -/
namespace Go.Proofs.YtgcefippeokmcaaDoor.Lo
open Go.RowKit

/-- Sums, from the front. -/
def sm : Nat → (Nat → Nat) → Nat
  | 0, _ => 0
  | n + 1, o => o 0 + sm n (fun v => o (v + 1))
theorem sm_le : ∀ (n : Nat) (a b : Nat → Nat), (∀ v, v < n → a v ≤ b v) → sm n a ≤ sm n b
  | 0, _, _, _ => Nat.le_refl _
  | n + 1, a, b, h => by
    have h0 := h 0 (by omega)
    have h1 := sm_le n (fun v => a (v + 1)) (fun v => b (v + 1)) (fun v hv => h (v + 1) (by omega))
    simp only [sm]
    omega
theorem sm_add : ∀ (n : Nat) (a b : Nat → Nat), sm n (fun v => a v + b v) = sm n a + sm n b
  | 0, _, _ => rfl
  | n + 1, a, b => by
    have h1 := sm_add n (fun v => a (v + 1)) (fun v => b (v + 1))
    simp only [sm]
    omega
theorem sm_zero : ∀ (n : Nat) (a : Nat → Nat), (∀ v, v < n → a v = 0) → sm n a = 0
  | 0, _, _ => rfl
  | n + 1, a, h => by
    have h0 := h 0 (by omega)
    have h1 := sm_zero n (fun v => a (v + 1)) (fun v hv => h (v + 1) (by omega))
    simp only [sm]
    omega
theorem sm_pick : ∀ (n v0 : Nat) (a : Nat → Nat), v0 < n → sm n (fun v => if v = v0 then a v else 0) = a v0
  | 0, v0, _, h => by omega
  | n + 1, 0, a, _ => by
    have h1 := sm_zero n (fun v => if v + 1 = 0 then a (v + 1) else 0) (fun v _ => if_neg (by omega))
    simp only [sm]
    rw [h1]
    simp
  | n + 1, v0 + 1, a, h => by
    have h1 := sm_pick n v0 (fun v => a (v + 1)) (by omega)
    simp only [sm]
    rw [if_neg (by omega), Nat.zero_add, ← h1]
    congr 1
    funext v
    by_cases hv : v = v0
    · rw [if_pos hv, if_pos (by omega)]
    · rw [if_neg hv, if_neg (by omega)]
theorem sm_mul (c : Nat) : ∀ (n : Nat) (a : Nat → Nat), sm n (fun v => c * a v) = c * sm n a
  | 0, _ => rfl
  | n + 1, a => by
    have h1 := sm_mul c n (fun v => a (v + 1))
    simp only [sm]
    rw [h1, Nat.mul_add]

/-- So many of n things. -/
def ch : Nat → Nat → Nat
  | _, 0 => 1
  | 0, _ + 1 => 0
  | n + 1, q + 1 => ch n (q + 1) + ch n q
theorem ch_zero (n : Nat) : ch n 0 = 1 := by cases n <;> rfl
theorem ch_mul : ∀ (n q : Nat), (q + 1) * ch n (q + 1) ≤ n * ch n q
  | 0, q => by simp [ch]
  | n + 1, 0 => by
    have h := ch_mul n 0
    rw [ch_zero] at h ⊢
    simp only [ch, ch_zero]
    omega
  | n + 1, q + 1 => by
    have h := ch_mul n (q + 1)
    have h2 := ch_mul n q
    simp only [ch]
    generalize ch n (q + 1 + 1) = x at h ⊢
    generalize ch n (q + 1) = y at h h2 ⊢
    generalize ch n q = z at h2 ⊢
    have e1 : (q + 1 + 1) * (x + y) = (q + 1 + 1) * x + (q + 1) * y + y := by
      rw [Nat.mul_add, Nat.add_mul (q + 1) 1 y]; omega
    have e2 : (n + 1) * (y + z) = n * y + y + (n * z + z) := by
      rw [Nat.mul_add, Nat.add_mul n 1 y, Nat.add_mul n 1 z]; omega
    rw [e1, e2]
    omega

/-- Fewer than r of n things. -/
def zz : Nat → Nat → Nat
  | 0, _ => 0
  | r + 1, n => zz r n + ch n r
theorem zz_at_zero : ∀ r, zz (r + 1) 0 = 1
  | 0 => rfl
  | r + 1 => by
    have := zz_at_zero r
    show zz (r + 1) 0 + ch 0 (r + 1) = 1
    rw [this]; rfl
theorem zz_pascal : ∀ (r n : Nat), zz (r + 1) (n + 1) = zz (r + 1) n + zz r n
  | 0, n => by
    show zz 0 (n + 1) + ch (n + 1) 0 = zz 0 n + ch n 0 + zz 0 n
    rw [ch_zero, ch_zero]; rfl
  | r + 1, n => by
    have := zz_pascal r n
    show zz (r + 1) (n + 1) + ch (n + 1) (r + 1) = zz (r + 1) n + ch n (r + 1) + (zz r n + ch n r)
    rw [this]
    simp only [ch]
    omega
theorem zz_mono1 (r n : Nat) : zz r n ≤ zz r (n + 1) := by
  cases r with
  | zero => exact Nat.le_refl _
  | succ r => rw [zz_pascal]; omega
theorem zz_mono (r n : Nat) : ∀ d, zz r n ≤ zz r (n + d)
  | 0 => Nat.le_refl _
  | d + 1 => Nat.le_trans (zz_mono r n d) (zz_mono1 r (n + d))
theorem zz_step (r n : Nat) : ∀ o, zz (r + 1) n + o * zz r n ≤ zz (r + 1) (o + n)
  | 0 => by simp
  | o + 1 => by
    have h := zz_step r n o
    have h2 := zz_mono r n o
    rw [show o + 1 + n = (o + n) + 1 by omega, zz_pascal, Nat.add_mul, Nat.add_comm o n]
    rw [Nat.add_comm o n] at h
    omega
theorem zz8 (n : Nat) (h : n ≤ 400) : zz 8 n ≤ 400000000000000 := by
  have hs : ∀ q, (q + 1) * ch n (q + 1) ≤ 400 * ch n q := fun q => Nat.le_trans (ch_mul n q) (Nat.mul_le_mul_right _ h)
  have h0 := ch_zero n
  have h1 := hs 0
  have h2 := hs 1
  have h3 := hs 2
  have h4 := hs 3
  have h5 := hs 4
  have h6 := hs 5
  have h7 := hs 6
  simp only [Nat.reduceAdd] at h1 h2 h3 h4 h5 h6 h7
  simp only [zz]
  omega

/-- The sum behind an index. -/
def tl : Nat → (Nat → Nat) → Nat → Nat
  | 0, _, _ => 0
  | n + 1, o, 0 => sm n (fun v => o (v + 1))
  | n + 1, o, v + 1 => tl n (fun v => o (v + 1)) v
theorem abel (r : Nat) : ∀ (n : Nat) (o : Nat → Nat), sm n (fun v => o v * zz r (tl n o v)) + 1 ≤ zz (r + 1) (sm n o)
  | 0, _ => by simp only [sm]; rw [zz_at_zero]; omega
  | n + 1, o => by
    have h := abel r n (fun v => o (v + 1))
    have h2 := zz_step r (sm n (fun v => o (v + 1))) (o 0)
    simp only [sm, tl]
    omega

/-- Levels for r jumps from below j recursions at the root. -/
def th : Nat → Nat → Nat
  | 0, j => j
  | r + 1, j => j + 1 + th r (j + 1)
theorem th_mono : ∀ (r j d : Nat), th r j ≤ th r (j + d)
  | 0, j, d => by simp only [th]; omega
  | r + 1, j, d => by
    have := th_mono r (j + 1) d
    simp only [th]
    rw [show j + d + 1 = j + 1 + d by omega]
    omega
theorem th8 (j : Nat) : 40 ≤ th 8 j := by
  simp only [th]
  omega

/-- The variables with index v. -/
def occ : F → Nat → Nat
  | .nil, _ => 0
  | .cons _ k _ ix kids rest, v => (if k = 5 then (if ix.toNat = v then 1 else 0) else if k = 4 then occ kids (v + 1) else occ kids v) + occ rest v
def occN (g : Nd) (v : Nat) : Nat := if g.k = 5 then (if g.ix.toNat = v then 1 else 0) else if g.k = 4 then occ g.kids (v + 1) else occ g.kids v
theorem sm_one (n v0 : Nat) (j : Nat) : sm n (fun v => if v0 = j + v then 1 else 0) ≤ 1 := by
  by_cases h : j ≤ v0 ∧ v0 - j < n
  · have := sm_pick n (v0 - j) (fun _ => 1) h.2
    refine Nat.le_trans (sm_le n _ (fun v => if v = v0 - j then 1 else 0) (fun v _ => ?_)) (Nat.le_of_eq this)
    show (if v0 = j + v then 1 else 0) ≤ (if v = v0 - j then 1 else 0)
    by_cases e : v0 = j + v
    · rw [if_pos e, if_pos (by omega)]
      exact Nat.le_refl _
    · rw [if_neg e]
      exact Nat.zero_le _
  · rw [sm_zero n _ (fun v hv => if_neg (by omega))]
    omega
theorem occ_sum : ∀ (f : F) (n j : Nat), sm n (fun v => occ f (j + v)) ≤ f.sz := by
  intro f
  induction f with
  | nil => intro n j; exact Nat.le_of_eq (sm_zero n _ (fun _ _ => rfl))
  | cons lab k fr ix kids rest ihk ihr =>
    intro n j
    have hr := ihr n j
    have hk := ihk n j
    have hk4 := ihk n (j + 1)
    simp only [occ]
    rw [sm_add]
    simp only [F.sz]
    by_cases h5 : k = 5
    · simp only [if_pos h5]
      have := sm_one n ix.toNat j
      omega
    · simp only [if_neg h5]
      by_cases h4 : k = 4
      · simp only [if_pos h4]
        have e : (fun v => occ kids (j + v + 1)) = fun v => occ kids (j + 1 + v) := by
          funext v; rw [show j + v + 1 = j + 1 + v by omega]
        rw [e]
        omega
      · simp only [if_neg h4]
        omega
theorem occN_sum (g : Nd) (n : Nat) : sm n (occN g) ≤ g.kids.sz + 1 := by
  have := occ_sum (.cons ⟨#[]⟩ g.k g.fr g.ix g.kids .nil) n 0
  simp only [occ, F.sz, Nat.zero_add, Nat.add_zero] at this
  exact this

/-- The size of what stands at an index. -/
def szO (s : List (Option Nd)) (v : Nat) : Nat := match (s[v]?).join with | some U => U.kids.sz | none => 0
/-- The size of a copy. -/
theorem cp_sz (s : List (Option Nd)) (hs : VaS s) : ∀ (f : F) (j : Nat) (u : Int), 0 ≤ u → wF f ((j + s.length : Nat) : Int) u = true →
    (cpF (kept j ++ s) f).sz ≤ f.sz + sm s.length (fun v => occ f (j + v) * szO s v) := by
  intro f
  induction f with
  | nil => intro j u _ _; simp only [cpF, F.sz]; omega
  | cons lab k fr ix kids rest ihk ihr =>
    intro j u hu h
    simp only [wF, Bool.and_eq_true] at h
    obtain ⟨⟨h1, h2⟩, h3⟩ := h
    have hr := ihr j u hu h3
    have hsum : ∀ x : Nat → Nat, sm s.length (fun v => (x v + occ rest (j + v)) * szO s v) = sm s.length (fun v => x v * szO s v) + sm s.length (fun v => occ rest (j + v) * szO s v) := by
      intro x
      rw [← sm_add]
      congr 1
      funext v
      rw [Nat.add_mul]
    rw [cpF_cons]
    simp only [occ, F.sz]
    rw [hsum]
    by_cases h5 : k = 5
    · subst h5
      have hn := shape_leaf h1 (by decide) (by decide)
      subst hn
      simp only [if_true, Bool.and_eq_true, decide_eq_true_eq] at h2 ⊢
      have hcp : (cpN (kept j ++ s) ⟨5, fr, ix, .nil⟩).kids.sz ≤ sm s.length (fun v => (if ix.toNat = j + v then 1 else 0) * szO s v) := by
        simp only [cpN, if_true]
        by_cases hlt : ix.toNat < j
        · rw [kept_get j _ hlt]
          simp only [cpF, F.sz]
          exact Nat.zero_le _
        · have hx : ((kept j ++ s)[ix.toNat]?).join = (s[ix.toNat - j]?).join := by
            unfold kept
            rw [List.getElem?_append_right (by simp; omega)]
            simp
          have hlen : ix.toNat - j < s.length := by omega
          have hp := sm_pick s.length (ix.toNat - j) (szO s) hlen
          have he : sm s.length (fun v => (if ix.toNat = j + v then 1 else 0) * szO s v) = szO s (ix.toNat - j) := by
            rw [← hp]
            congr 1
            funext v
            by_cases e : ix.toNat = j + v
            · rw [if_pos e, if_pos (by omega), Nat.one_mul]
            · rw [if_neg e, if_neg (by omega), Nat.zero_mul]
          rw [he, hx]
          obtain ⟨U, eU, _⟩ := hs.join hlen
          unfold szO
          rw [eU]
          exact Nat.le_refl _
      omega
    · simp only [if_neg h5] at h2 ⊢
      simp only [cpN, if_neg h5]
      by_cases h4 : k = 4
      · simp only [if_pos h4] at h2 ⊢
        have hk := ihk (j + 1) (u + 1) (by omega) (by rw [show ((j + 1 + s.length : Nat) : Int) = ((j + s.length : Nat) : Int) + 1 by omega]; exact h2)
        rw [kept_succ]
        have e : (fun v => occ kids (j + v + 1) * szO s v) = fun v => occ kids (j + 1 + v) * szO s v := by
          funext v; rw [show j + v + 1 = j + 1 + v by omega]
        rw [e]
        omega
      · simp only [if_neg h4] at h2 ⊢
        by_cases h23 : k = 2 ∨ k = 3
        · rw [if_pos h23] at h2
          have hk := ihk j 0 (by omega) h2
          omega
        · have hn := shape_leaf h1 h23 h4
          subst hn
          simp only [cpF, F.sz]
          omega
theorem cpN_sz (s : List (Option Nd)) (hs : VaS s) (g : Nd) (u : Int) (hu : 0 ≤ u) (h : wN g (s.length : Int) u = true) :
    (cpN s g).kids.sz ≤ g.kids.sz + sm s.length (fun v => occN g v * szO s v) := by
  obtain ⟨k, fr, ix, kids⟩ := g
  have h9 := cp_sz s hs (.cons ⟨#[]⟩ k fr ix kids .nil) 0 u hu (by simp only [wF, Bool.and_true, Nat.zero_add]; exact h)
  rw [cpF_cons] at h9
  simp only [kept, List.replicate_zero, List.nil_append, cpF, F.sz, occ, Nat.zero_add, Nat.add_zero] at h9
  have e : (fun v => (if k = 5 then (if ix.toNat = v then 1 else 0) else if k = 4 then occ kids (v + 1) else occ kids v) * szO s v) = fun v => occN ⟨k, fr, ix, kids⟩ v * szO s v := by
    funext v; rfl
  rw [e] at h9
  show (cpN s ⟨k, fr, ix, kids⟩).kids.sz ≤ kids.sz + sm s.length (fun v => occN ⟨k, fr, ix, kids⟩ v * szO s v)
  omega

/-- The recursions at the root. -/
def rk : F → Nat
  | .nil => 0
  | .cons _ k _ _ kids _ => if k = 4 then 1 + rk kids else 0
def rkN (g : Nd) : Nat := if g.k = 4 then 1 + rk g.kids else 0
/-- What stands for a variable lies in the copy. -/
theorem cp_in (s : List (Option Nd)) {v : Nat} {U : Nd} (hU : (s[v]?).join = some U) : ∀ (f : F) (j : Nat), 0 < occ f (j + v) → hN U ≤ hF (cpF (kept j ++ s) f) := by
  intro f
  induction f with
  | nil => intro j h; simp [occ] at h
  | cons lab k fr ix kids rest ihk ihr =>
    intro j h
    simp only [occ] at h
    rw [cpF_cons]
    simp only [hF]
    by_cases hr : 0 < occ rest (j + v)
    · have := ihr j hr
      omega
    · by_cases h5 : k = 5
      · rw [if_pos h5] at h
        by_cases e : ix.toNat = j + v
        · have hx : ((kept j ++ s)[ix.toNat]?).join = some U := by
            rw [e]
            unfold kept
            rw [List.getElem?_append_right (by simp)]
            simpa using hU
          simp only [cpN, if_pos h5]
          rw [hx]
          simp only [hN]
          omega
        · rw [if_neg e] at h
          omega
      · rw [if_neg h5] at h
        simp only [cpN, if_neg h5]
        by_cases h4 : k = 4
        · rw [if_pos h4] at h
          simp only [if_pos h4]
          rw [kept_succ]
          have := ihk (j + 1) (by rw [show j + 1 + v = j + v + 1 by omega]; omega)
          omega
        · rw [if_neg h4] at h
          simp only [if_neg h4]
          have := ihk j (by omega)
          omega
/-- .. below all recursions at the root and the action behind them. -/
theorem cp_deep (s : List (Option Nd)) {v : Nat} {U : Nd} (hU : (s[v]?).join = some U) : ∀ (f : F) (j : Nat) (b u : Int), f.len ≤ 1 → wF f b u = true → ((j : Int) + v < u) → 0 < occ f (j + v) → rk f + 1 + hN U ≤ hF (cpF (kept j ++ s) f) := by
  intro f
  induction f with
  | nil => intro j b u _ _ _ h; simp [occ] at h
  | cons lab k fr ix kids rest ihk _ =>
    intro j b u hlen hw hju h
    have hrn : rest = .nil := nil_of_len (by simp only [F.len] at hlen; omega)
    subst hrn
    simp only [wF, Bool.and_eq_true, Bool.and_true] at hw
    obtain ⟨h1, h2⟩ := hw
    simp only [occ, Nat.add_zero] at h
    rw [cpF_cons]
    simp only [hF, rk]
    by_cases h5 : k = 5
    · exfalso
      rw [if_pos h5] at h h2
      simp only [Bool.and_eq_true, decide_eq_true_eq] at h2
      by_cases e : ix.toNat = j + v
      · omega
      · rw [if_neg e] at h
        omega
    · rw [if_neg h5] at h h2
      simp only [cpN, if_neg h5]
      by_cases h4 : k = 4
      · rw [if_pos h4] at h h2
        simp only [if_pos h4]
        rw [kept_succ]
        have hl : kids.len ≤ 1 := by
          subst h4
          simp [shapeB] at h1
          omega
        have := ihk (j + 1) (b + 1) (u + 1) hl h2 (by omega) (by rw [show j + 1 + v = j + v + 1 by omega]; omega)
        omega
      · rw [if_neg h4] at h
        simp only [if_neg h4]
        have := cp_in s hU kids j (by omega)
        omega
theorem rec_ne {fr : ByteArray} {ix : Int} {kids : F} (h : shapeB 4 fr ix kids = true) : kids ≠ .nil := by
  rintro rfl
  simp [shapeB, F.len] at h
theorem rk_h : ∀ (f : F) (b u : Int) (s : List (Option Nd)), wF f b u = true → f ≠ .nil → rk f + 1 ≤ hF (cpF s f) := by
  intro f
  induction f with
  | nil => intro b u s _ h; exact absurd rfl h
  | cons lab k fr ix kids rest ihk _ =>
    intro b u s hw _
    simp only [wF, Bool.and_eq_true] at hw
    obtain ⟨⟨h1, h2⟩, -⟩ := hw
    rw [cpF_cons]
    simp only [rk, hF]
    by_cases h4 : k = 4
    · have h5 : ¬ k = 5 := by omega
      rw [if_neg h5, if_pos h4] at h2
      have hne : kids ≠ .nil := by
        rw [h4] at h1
        exact rec_ne h1
      simp only [if_pos h4, cpN, if_neg h5]
      have := ihk (b + 1) (u + 1) (none :: s) h2 hne
      omega
    · rw [if_neg h4]; omega
theorem rkN_h (g : Nd) (b u : Int) (s : List (Option Nd)) (hw : wN g b u = true) : rkN g + 1 ≤ hN (cpN s g) := by
  obtain ⟨k, fr, ix, kids⟩ := g
  have h9 := rk_h (.cons ⟨#[]⟩ k fr ix kids .nil) b u s (by simp only [wF, Bool.and_true]; exact hw) (by simp)
  rw [cpF_cons] at h9
  simp only [cpF, hF, rk, Nat.max_zero] at h9
  show (if k = 4 then 1 + rk kids else 0) + 1 ≤ 1 + hF (cpN s ⟨k, fr, ix, kids⟩).kids
  omega
theorem cpN_deep (s : List (Option Nd)) {v : Nat} {U : Nd} (hU : (s[v]?).join = some U) (g : Nd) (b u : Int) (hw : wN g b u = true) (hv : (v : Int) < u) (h : 0 < occN g v) : rkN g + 1 + hN U ≤ hN (cpN s g) := by
  obtain ⟨k, fr, ix, kids⟩ := g
  have h9 := cp_deep s hU (.cons ⟨#[]⟩ k fr ix kids .nil) 0 b u (by simp [F.len]) (by simp only [wF, Bool.and_true]; exact hw) (by omega) (by simp only [occ, Nat.zero_add, Nat.add_zero]; exact h)
  rw [cpF_cons] at h9
  simp only [kept, List.replicate_zero, List.nil_append, cpF, hF, rk, Nat.max_zero] at h9
  show (if k = 4 then 1 + rk kids else 0) + 1 + hN U ≤ 1 + hF (cpN s ⟨k, fr, ix, kids⟩).kids
  omega

/-- What is known of the nodes of the environment. -/
def SzInv (s : List (Option Nd)) (g : Nd) : Prop :=
  ∀ v U, (s[v]?).join = some U → ∀ r, hN U ≤ th r (rkN g + 1 + v) → U.kids.sz + 1 ≤ 400 * zz r (tl s.length (occN g) v)

theorem szv_node {s : List (Option Nd)} {g : Nd} (hs : VaS s) (hi : SzInv s g) (hw : wN g (s.length : Int) (s.length : Int) = true) (hg : g.kids.sz + 1 ≤ 400) :
    ∀ r, hN (cpN s g) ≤ th r (rkN g) → (cpN s g).kids.sz + 1 ≤ 400 * zz r (sm s.length (occN g)) := by
  intro r hr
  cases r with
  | zero =>
    have := rkN_h g _ _ s hw
    simp only [th] at hr
    omega
  | succ r =>
    have h1 := cpN_sz s hs g _ (by omega) hw
    have h2 : sm s.length (fun v => occN g v * szO s v) ≤ sm s.length (fun v => 400 * (occN g v * zz r (tl s.length (occN g) v))) := by
      refine sm_le _ _ _ (fun v hv => ?_)
      by_cases ho : 0 < occN g v
      · obtain ⟨U, eU, _⟩ := hs.join hv
        have hd := cpN_deep s eU g _ _ hw (by omega) ho
        simp only [th] at hr
        have hm := th_mono r (rkN g + 1) v
        have := hi v U eU r (by omega)
        have e : szO s v = U.kids.sz := by unfold szO; rw [eU]
        rw [e, Nat.mul_left_comm]
        exact Nat.mul_le_mul_left _ (by omega)
      · rw [show occN g v = 0 by omega]
        simp
    rw [sm_mul 400] at h2
    have h3 := abel r s.length (occN g)
    have h4 : 400 * (sm s.length (fun v => occN g v * zz r (tl s.length (occN g) v)) + 1) ≤ 400 * zz (r + 1) (sm s.length (occN g)) := Nat.mul_le_mul_left _ h3
    omega

theorem szv_step {s : List (Option Nd)} {g : Nd} (hs : VaS s) (hi : SzInv s g) (hw : wN g (s.length : Int) (s.length : Int) = true) (hg : g.kids.sz + 1 ≤ 400) (h4 : g.k = 4)
    {lab fr : ByteArray} {k ix : Int} {kids : F} (hk : g.kids = .cons lab k fr ix kids .nil) : SzInv (some (cpN s g) :: s) ⟨k, fr, ix, kids⟩ := by
  have hocc : ∀ v, occN ⟨k, fr, ix, kids⟩ (v + 1) = occN g v := by
    intro v
    unfold occN
    rw [if_neg (show ¬ g.k = 5 by omega), if_pos h4, hk]
    simp only [occ, Nat.add_zero]
  have hrk : rkN g = 1 + rkN ⟨k, fr, ix, kids⟩ := by
    unfold rkN
    rw [if_pos h4, hk]
    simp only [rk]
  have hfun : (fun v => occN ⟨k, fr, ix, kids⟩ (v + 1)) = occN g := funext hocc
  intro v U hU r hr
  cases v with
  | zero =>
    have e : cpN s g = U := by simpa using hU
    subst e
    have := szv_node hs hi hw hg r (by rw [hrk, Nat.add_comm]; exact hr)
    simp only [List.length_cons, tl]
    rw [hfun]
    exact this
  | succ v =>
    have hU' : (s[v]?).join = some U := by simpa using hU
    have := hi v U hU' r (by rw [hrk]; rw [show 1 + rkN ⟨k, fr, ix, kids⟩ + 1 + v = rkN ⟨k, fr, ix, kids⟩ + 1 + (v + 1) by omega]; exact hr)
    simp only [List.length_cons, tl]
    rw [hfun]
    exact this

theorem unfN_sz : ∀ (n : Nat) (s : List (Option Nd)) (g : Nd), VaS s → SzInv s g → wN g (s.length : Int) (s.length : Int) = true → g.kids.sz + 1 ≤ 400 →
    hN (unfN n s g) ≤ 40 → (unfN n s g).kids.sz + 1 ≤ 160000000000000000 := by
  have key : ∀ (s : List (Option Nd)) (g : Nd), VaS s → SzInv s g → wN g (s.length : Int) (s.length : Int) = true → g.kids.sz + 1 ≤ 400 →
      hN (cpN s g) ≤ 40 → (cpN s g).kids.sz + 1 ≤ 160000000000000000 := by
    intro s g hs hi hw hg hh
    have h1 := szv_node hs hi hw hg 8 (Nat.le_trans hh (th8 _))
    have h2 := occN_sum g s.length
    have h3 := zz8 (sm s.length (occN g)) (by omega)
    omega
  intro n
  induction n with
  | zero => intro s g hs hi hw hg hh; exact key s g hs hi hw hg hh
  | succ n ih =>
    intro s g hs hi hw hg hh
    unfold unfN at hh ⊢
    by_cases h3 : g.k = 4
    · rw [if_pos h3] at hh ⊢
      cases hk : g.kids with
      | nil => rw [hk] at hh; exact key s g hs hi hw hg hh
      | cons lab k fr ix kids rest =>
        rw [hk] at hh
        simp only at hh ⊢
        have hw0 := hw
        unfold wN at hw
        simp only [Bool.and_eq_true] at hw
        have hrn : rest = .nil := by
          have h1 := hw.1
          rw [h3, hk] at h1
          simp [shapeB, F.len] at h1
          exact nil_of_len (by omega)
        subst hrn
        refine ih _ _ ?_ (szv_step hs hi hw0 hg h3 hk) ?_ ?_ hh
        · intro x hx
          rcases List.mem_cons.1 hx with rfl | hx
          · exact ⟨_, rfl, cpN_w s hs g (wN_u _ _ _ _ hw0 (by omega))⟩
          · exact hs x hx
        · have h2 := hw.2
          rw [if_neg (by omega), if_pos h3, hk] at h2
          simp only [wF, Bool.and_eq_true] at h2
          unfold wN
          simp only [Bool.and_eq_true]
          rw [show (((some (cpN s g) :: s).length : Nat) : Int) = (s.length : Int) + 1 by simp]
          exact h2.1
        · rw [hk] at hg
          simp only [F.sz] at hg
          show kids.sz + 1 ≤ 400
          omega
    · rw [if_neg h3] at hh ⊢
      exact key s g hs hi hw hg hh
theorem unf_sz (g : Nd) (hw : wN g 0 0 = true) (hg : g.kids.sz + 1 ≤ 400) (hh : hN (unf g) ≤ 40) : (unf g).kids.sz + 1 ≤ 160000000000000000 := by
  refine unfN_sz _ [] g (fun x hx => by simp at hx) (fun v U hU => by simp at hU) (by simpa using hw) hg hh
end Go.Proofs.YtgcefippeokmcaaDoor.Lo

/- What unfolding a local type gives. -/
namespace Go.Proofs.YtgcefippeokmcaaDoor.Lo
open Go.RowKit

def okG (g : Nd) : Bool := okN g.k g.fr g.ix g.kids
theorem okG_w {g : Nd} (h : okG g = true) : wN g 0 0 = true ∧ hN g ≤ 40 ∧ g.kids.sz + 1 ≤ 400 := by
  unfold okG okN at h
  rw [vldN_w g 0 0 40 (by omega) (by omega)] at h
  simp only [Bool.and_eq_true, decide_eq_true_eq] at h
  exact ⟨h.1.1, by omega, h.2⟩
theorem okG_of_w {g : Nd} (h : wN g 0 0 = true) : okG g = (decide (hN g ≤ 40) && decide (g.kids.sz + 1 ≤ 400)) := by
  unfold okG okN
  rw [vldN_w g 0 0 40 (by omega) (by omega), h, Bool.true_and]
  congr 1
  apply decide_eq_decide.2
  omega

theorem unf_bound {g : Nd} (hw : wN g 0 0 = true) (hsz : g.kids.sz + 1 ≤ 400) (hv : vldN (unf g).k (unf g).fr (unf g).ix (unf g).kids 0 0 40 = true) : (unf g).kids.sz ≤ 160000000000000000 := by
  rw [vldN_w (unf g) 0 0 40 (by omega) (by omega)] at hv
  simp only [Bool.and_eq_true, decide_eq_true_eq] at hv
  have := unf_sz g hw hsz (by omega)
  omega

def zeroNd : Nd := ⟨0, ⟨#[]⟩, 0, .nil⟩
/-- Whether the unfolding is valid. -/
def unfOk (g : Nd) : Bool := okG g && okG (unf g)
/-- What UnfoldLocal gives. -/
def unfR (g : Nd) : Nd := if unfOk g then unf g else zeroNd
/-- A node in new memory, and a flag. -/
def MadeR (R : Nd) (ok : Bool) (w : World) (e : Ending) (w' : World) : Prop :=
  ∃ u bs, e = .returned (.tuple #[.agg #[.int .i64 R.k, .string R.fr, .int .i64 R.ix, u], .bool ok]) ∧ Ow w' u R.kids bs ∧ (∀ b, b ∈ bs → w.heap.size ≤ b) ∧ bs.Nodup ∧ Below w.heap.size w w'

theorem MadeR.zero {w w' : World} (h : Below w.heap.size w w') : MadeR zeroNd false w (.returned (.tuple #[.agg #[.int .i64 0, .string ⟨#[]⟩, .int .i64 0, .slice none 0 0], .bool false])) w' :=
  ⟨_, [], rfl, ⟨none, 0, rfl, Nat.le_refl _, Nat.zero_le _, Or.inl ⟨rfl, rfl⟩⟩, fun _ h => absurd h (List.not_mem_nil), List.nodup_nil, h⟩
end Go.Proofs.YtgcefippeokmcaaDoor.Lo

/- UnfoldLocal of the model. -/
namespace Go.Proofs.YtgcefippeokmcaaDoor.Lo
open Go.RowKit

set_option maxHeartbeats 2000000 in
set_option maxRecDepth 100000 in
theorem specUnf (w : World) (g : Nd) (sv : Value) (hs : Sl w sv g.kids) (hf : Fit g) (hbig : g.kids.sz ≤ 160000000000000000) :
    Calls Tryd.prog 15 #[.agg #[.int .i64 g.k, .string g.fr, .int .i64 g.ix, sv]] w (MadeR (unfR g) (unfOk g) w) := by
  have HS := hide hs
  have HF := hide hf
  have HBIG := hide hbig
  have hb0 := (alloc_below w (.cells #[.int .i64 g.k, .string g.fr, .int .i64 g.ix, sv] ( /- t -/ 25))).alloc (by simp) (.cells #[.int .i64 0, .string ⟨#[]⟩, .int .i64 0, .slice none 0 0] ( /- t -/ 25))
  have hx0 := (Box4.now w (.int .i64 g.k) (.string g.fr) (.int .i64 g.ix) sv ( /- t -/ 25)).below (alloc_below _ (.cells #[.int .i64 0, .string ⟨#[]⟩, .int .i64 0, .slice none 0 0] ( /- t -/ 25)))
  have hz0 := Box4.now (w.alloc (.cells #[.int .i64 g.k, .string g.fr, .int .i64 g.ix, sv] ( /- t -/ 25))) (.int .i64 0) (.string ⟨#[]⟩) (.int .i64 0) (.slice none 0 0) ( /- t -/ 25)
  rw [show (w.alloc (.cells #[.int .i64 g.k, .string g.fr, .int .i64 g.ix, sv] ( /- t -/ 25))).heap.size = w.heap.size + 1 from by simp] at hz0
  have HB0 := hide hb0
  have HX0 := hide hx0
  have HZ0 := hide hz0
  clear hs hf hb0 hx0 hz0 hbig
  go_enter Tryd.func15, Tryd.ntmps15
  go_wp2_with fail
  generalize (w.alloc (.cells #[.int .i64 g.k, .string g.fr, .int .i64 g.ix, sv] ( /- t -/ 25))).alloc (.cells #[.int .i64 0, .string ⟨#[]⟩, .int .i64 0, .slice none 0 0] ( /- t -/ 25)) = W at *
  refine (specValidBig W g.k g.ix g.fr sv g.kids (HS.out.still (Still.of_below HB0.out)) (fun _ => HBIG.out)).mono ?_
  rintro e w1 ⟨rfl, hb⟩
  have HX1 := hide (HX0.out.below hb)
  have HZ1 := hide (HZ0.out.below hb)
  have HB1 := hide (HB0.out.trans (hb.mono HB0.out.size))
  obtain ⟨x0, x1, x2, x3⟩ := HX1.out.cells
  have hxl := HX1.out.lt
  clear hb HX0 HZ0 HB0
  cases hok : okN g.k g.fr g.ix g.kids with
  | false =>
    have hr : unfOk g = false := by unfold unfOk okG; rw [hok]; rfl
    have HR := hide hr
    obtain ⟨z0, z1, z2, z3⟩ := HZ1.out.cells
    have fz := HZ1.out.frozen
    have hzl := HZ1.out.lt
    clear hok hr
    go_wp2_with fail
    refine bodyPost_ret (v := .tuple #[.agg #[.int .i64 0, .string ⟨#[]⟩, .int .i64 0, .slice none 0 0], .bool false]) (by simp [results, Tryd.results15, go_sem, *]) rfl ?_
    have e1 : unfR g = zeroNd := by unfold unfR; rw [HR.out]; rfl
    rw [HR.out, e1]
    refine MadeR.zero ?_
    repeat (refine Below.setCell ?_ (by first | (simp; done) | (simp; omega)) _)
    exact HB1.out
  | true =>
    have hg : okG g = true := hok
    obtain ⟨hw, hh, hsz⟩ := okG_w hg
    have HG := hide (And.intro hg (And.intro hw (And.intro hh hsz)))
    clear hok hg hw hh hsz
    go_wp2_with fail
    refine (unf_calls w1 g sv (HS.out.still (Still.of_below HB1.out)) HG.out.2.1 HG.out.2.2.1 HF.out).mono ?_
    rintro e w2 ⟨u, ks, rfl, how, -, -, hb2⟩
    obtain ⟨ua, uc, rfl⟩ := how.val
    have HO := hide how
    have HX2 := hide (HX1.out.below hb2)
    have HZ2 := hide (HZ1.out.below hb2)
    have HB2 := hide (HB1.out.trans (hb2.mono HB1.out.size))
    clear how hb2 x0 x1 x2 x3 hxl HX1 HZ1 HB1
    obtain ⟨x0, x1, x2, x3⟩ := HX2.out.cells
    have hxl := HX2.out.lt
    go_wp2_with fail
    refine (specValidBig w2 (unf g).k (unf g).ix (unf g).fr _ (unf g).kids HO.out.sl (fun hv => unf_bound HG.out.2.1 HG.out.2.2.2 hv)).mono ?_
    rintro e w3 ⟨rfl, hb3⟩
    have HX3 := hide (HX2.out.below hb3)
    have HZ3 := hide (HZ2.out.below hb3)
    have HB3 := hide (HB2.out.trans (hb3.mono HB2.out.size))
    clear hb3 x0 x1 x2 x3 hxl HX2 HZ2 HB2
    obtain ⟨x0, x1, x2, x3⟩ := HX3.out.cells
    have hxl := HX3.out.lt
    obtain ⟨z0, z1, z2, z3⟩ := HZ3.out.cells
    have fz := HZ3.out.frozen
    have hzl := HZ3.out.lt
    cases hok : okN (unf g).k (unf g).fr (unf g).ix (unf g).kids with
    | false =>
      have hr : unfOk g = false := by unfold unfOk; rw [show okG (unf g) = false from hok, Bool.and_false]
      have HR := hide hr
      clear hok hr
      go_wp2_with fail
      refine bodyPost_ret (v := .tuple #[.agg #[.int .i64 0, .string ⟨#[]⟩, .int .i64 0, .slice none 0 0], .bool false]) (by simp [results, Tryd.results15, go_sem, *]) rfl ?_
      have e1 : unfR g = zeroNd := by unfold unfR; rw [HR.out]; rfl
      rw [HR.out, e1]
      refine MadeR.zero ?_
      repeat (refine Below.setCell ?_ (by first | (simp; done) | (simp; omega)) _)
      exact HB3.out
    | true =>
      have hr : unfOk g = true := by unfold unfOk; rw [show okG (unf g) = true from hok, HG.out.1]; rfl
      have HR := hide hr
      clear hok hr z0 z1 z2 z3 fz hzl
      go_wp2_with fail
      refine (unf_calls w3 g sv (HS.out.still (Still.of_below HB3.out)) HG.out.2.1 HG.out.2.2.1 HF.out).mono ?_
      rintro e w4 ⟨u4, ks4, rfl, how4, hks4, hnd4, hb4⟩
      obtain ⟨va, vc, rfl⟩ := how4.val
      have HZ4 := HZ3.out.below hb4
      have hbx := HB3.out.trans (hb4.mono HB3.out.size)
      obtain ⟨z0, z1, z2, z3⟩ := HZ4.cells
      have fz := HZ4.frozen
      have hzl := HZ4.lt
      have HO4 := hide how4
      have HK4 := hide hks4
      have HB4 := hide hbx
      have hl3 := HZ3.out.lt
      clear how4 hks4 hb4 HZ4 hbx x0 x1 x2 x3 hxl
      go_wp2_with fail
      refine bodyPost_ret (v := .tuple #[.agg #[.int .i64 (unf g).k, .string (unf g).fr, .int .i64 (unf g).ix, .slice va (unf g).kids.len vc], .bool true]) (by simp [results, Tryd.results15, go_sem, *]) rfl ?_
      have e1 : unfR g = unf g := by unfold unfR; rw [HR.out]; rfl
      rw [HR.out, e1]
      have q : ∀ b, b ∈ ks4 → w.heap.size + 1 < b := fun b h => by have := HK4.out b h; omega
      refine ⟨_, ks4, rfl, HO4.out.same ?_, fun b h => by have := q b h; omega, hnd4, ?_⟩
      · repeat (refine Same.setCell ?_ (fun b h => by have := q b h; simp; omega) _)
        exact Same.refl _ _
      · repeat (refine Below.setCell ?_ (by first | (simp; done) | (simp; omega)) _)
        exact HB4.out

end Go.Proofs.YtgcefippeokmcaaDoor.Lo

/- What a linked node is, kind by kind, and what the type switches of the program answer. -/
namespace Go.Proofs.YtgcefippeokmcaaDoor.Lo
open Go.RowKit

/-! ### The type switch -/
theorem taEndEnd (v : Value) (w : World) : (Instr.typeAssert (.iface ( /- t -/ 143) v) ( /- t -/ 57) ( /- t -/ 143) true).run Tryd.prog w = .ok (.tuple #[v, .bool true]) w := by kernel_rfl
theorem taVarEnd (v : Value) (w : World) : (Instr.typeAssert (.iface ( /- t -/ 125) v) ( /- t -/ 57) ( /- t -/ 143) true).run Tryd.prog w = .ok (.tuple #[.agg #[], .bool false]) w := by kernel_rfl
theorem taLoopEnd (v : Value) (w : World) : (Instr.typeAssert (.iface ( /- t -/ 121) v) ( /- t -/ 57) ( /- t -/ 143) true).run Tryd.prog w = .ok (.tuple #[.agg #[], .bool false]) w := by kernel_rfl
theorem taActEnd (v : Value) (w : World) : (Instr.typeAssert (.iface ( /- t -/ 149) v) ( /- t -/ 57) ( /- t -/ 143) true).run Tryd.prog w = .ok (.tuple #[.agg #[], .bool false]) w := by kernel_rfl
theorem taVarVar (v : Value) (w : World) : (Instr.typeAssert (.iface ( /- t -/ 125) v) ( /- t -/ 57) ( /- t -/ 125) true).run Tryd.prog w = .ok (.tuple #[v, .bool true]) w := by kernel_rfl
theorem taLoopVar (v : Value) (w : World) : (Instr.typeAssert (.iface ( /- t -/ 121) v) ( /- t -/ 57) ( /- t -/ 125) true).run Tryd.prog w = .ok (.tuple #[.agg #[.pointer none], .bool false]) w := by kernel_rfl
theorem taActVar (v : Value) (w : World) : (Instr.typeAssert (.iface ( /- t -/ 149) v) ( /- t -/ 57) ( /- t -/ 125) true).run Tryd.prog w = .ok (.tuple #[.agg #[.pointer none], .bool false]) w := by kernel_rfl
theorem taLoopLoop (v : Value) (w : World) : (Instr.typeAssert (.iface ( /- t -/ 121) v) ( /- t -/ 57) ( /- t -/ 121) true).run Tryd.prog w = .ok (.tuple #[v, .bool true]) w := by kernel_rfl
theorem taActLoop (v : Value) (w : World) : (Instr.typeAssert (.iface ( /- t -/ 149) v) ( /- t -/ 57) ( /- t -/ 121) true).run Tryd.prog w = .ok (.tuple #[.pointer none, .bool false]) w := by kernel_rfl
theorem taActAct (v : Value) (w : World) : (Instr.typeAssert (.iface ( /- t -/ 149) v) ( /- t -/ 57) ( /- t -/ 149) true).run Tryd.prog w = .ok (.tuple #[v, .bool true]) w := by kernel_rfl
theorem taEndVar (v : Value) (w : World) : (Instr.typeAssert (.iface ( /- t -/ 143) v) ( /- t -/ 57) ( /- t -/ 125) true).run Tryd.prog w = .ok (.tuple #[.agg #[.pointer none], .bool false]) w := by kernel_rfl
theorem taEndLoop (v : Value) (w : World) : (Instr.typeAssert (.iface ( /- t -/ 143) v) ( /- t -/ 57) ( /- t -/ 121) true).run Tryd.prog w = .ok (.tuple #[.pointer none, .bool false]) w := by kernel_rfl
theorem taEndAct (v : Value) (w : World) : (Instr.typeAssert (.iface ( /- t -/ 143) v) ( /- t -/ 57) ( /- t -/ 149) true).run Tryd.prog w = .ok (.tuple #[.pointer none, .bool false]) w := by kernel_rfl

theorem linked_rec {w0 : World} {fr lab fr' : ByteArray} {ix k' ix' : Int} {kids' : F} {ps ks : List Nat} {v : Value} (h : LkN w0 4 fr ix (.cons lab k' fr' ix' kids' .nil) ps v ks) :
    ∃ L T x ks', v = .iface ( /- t -/ 121) (.pointer (some ⟨L, 0, none⟩)) ∧ Blk w0 L #[.iface T x] ∧ L ∉ ps ∧ LkN w0 k' fr' ix' kids' (ps ++ [L]) (.iface T x) ks' := by
  rcases h with ⟨h, -⟩ | ⟨h, -⟩ | ⟨-, L, s, u, ks', rfl, hb, hL, rfl, v', ys, k1, rs, e1, e2, hn, hr⟩ | ⟨h, -⟩
  · exact absurd h (by decide)
  · exact absurd h (by decide)
  · injection e1 with _ e1
    injection e1 with e1 _
    subst e1
    have hln : LkN w0 k' fr' ix' kids' (ps ++ [L]) u k1 := hn
    obtain ⟨T, x, rfl⟩ := hln.val
    exact ⟨L, T, x, k1, rfl, hb, hL, hln⟩
  · rcases h with h | h <;> exact absurd h (by decide)

theorem nodup_snoc {ps : List Nat} {L : Nat} (h : ps.Nodup) (hL : L ∉ ps) : (ps ++ [L]).Nodup :=
  List.nodup_append.2 ⟨h, by simp, fun x hx y hy => by rintro rfl; rw [List.mem_singleton.1 hy] at hx; exact hL hx⟩

theorem linked_act {w0 : World} {k ix : Int} {fr : ByteArray} {kids : F} {ps ks : List Nat} {v : Value} (hk : k = 2 ∨ k = 3) (h : LkN w0 k fr ix kids ps v ks) :
    ∃ A r cap cs xs ks', v = .iface ( /- t -/ 149) (.pointer (some ⟨A, 0, none⟩)) ∧ Blk w0 A #[.int .i64 k, .string fr, .slice (some ⟨r, 0, none⟩) kids.len cap] ∧ kids.len ≤ cap ∧ cap ≤ maxLen ∧ Blk w0 r cs ∧ cs.toList.take (kids.len * 2) = xs ∧ Lk w0 kids ps xs ks' := by
  rcases h with ⟨h, -⟩ | ⟨h, -⟩ | ⟨h, -⟩ | ⟨-, A, r, cap, cs, xs, ks', h1, h2, h3, h4, h5, h6, -, h8⟩
  · omega
  · omega
  · omega
  · exact ⟨A, r, cap, cs, xs, ks', h1, h2, h3, h4, h5, h6, h8⟩

/-- The next branch of a row. -/
theorem linked_next {w0 : World} {lab : ByteArray} {kd ix' : Int} {fr' : ByteArray} {kids' rest : F} {ps : List Nat} {xs ys : List Value} {rs : List Nat} {r n k : Nat} {cs : Array Value} (hl : Lk w0 (.cons lab kd fr' ix' kids' rest) ps ys rs) (hd : xs.drop (k * 2) = ys) (hr : Blk w0 r cs) (hx : cs.toList.take (n * 2) = xs) :
    ∃ T x ys' k1 r1, w0.cell? ⟨r, k * 2, none⟩ = some (.string lab) ∧ w0.cell? ⟨r, k * 2 + 1, none⟩ = some (.iface T x) ∧ LkN w0 kd fr' ix' kids' ps (.iface T x) k1 ∧ Lk w0 rest ps ys' r1 ∧ xs.drop ((k + 1) * 2) = ys' := by
  obtain ⟨v, ys', k1, r1, rfl, rfl, hn, hrest⟩ := hl
  have hln : LkN w0 kd fr' ix' kids' ps v k1 := hn
  obtain ⟨T, x, rfl⟩ := hln.val
  have g : ∀ i, xs[k * 2 + i]? = (Value.string lab :: Value.iface T x :: ys')[i]? := fun i => by rw [← hd, List.getElem?_drop]
  have cc : ∀ i v, xs[i]? = some v → w0.cell? ⟨r, i, none⟩ = some v := fun i v h => by
    rw [hr.cell i]
    rw [← hx, List.getElem?_take] at h
    split at h
    · simpa using h
    · cases h
  refine ⟨T, x, ys', k1, r1, cc _ _ (g 0), cc _ _ (g 1), hln, hrest, ?_⟩
  rw [show (k + 1) * 2 = k * 2 + 2 by omega, ← List.drop_drop, hd]
  rfl
end Go.Proofs.YtgcefippeokmcaaDoor.Lo

/- The recursions around a linked node, as trees: the environment in which a linked node is written out again. -/
namespace Go.Proofs.YtgcefippeokmcaaDoor.Lo
open Go.RowKit

/-- The blocks of the recursions, the outermost first; the list has the innermost first. -/
def blks (es : List (Nat × Nd)) : List Nat := (es.map Prod.fst).reverse
theorem blks_cons (b : Nat) (g : Nd) (es : List (Nat × Nd)) : blks ((b, g) :: es) = blks es ++ [b] := by
  simp [blks]
theorem blks_len (es : List (Nat × Nd)) : (blks es).length = es.length := by simp [blks]
theorem blks_mem {es : List (Nat × Nd)} {b : Nat} (h : b ∈ blks es) : ∃ g, (b, g) ∈ es := by
  simp only [blks, List.mem_reverse, List.mem_map] at h
  obtain ⟨⟨b', g⟩, h1, rfl⟩ := h
  exact ⟨g, h1⟩

/-- What stands for the recursions when they are written out. -/
def lvals : List (Nat × Nd) → List (Option Nd)
  | [] => []
  | (_, g) :: es => some (cpN (lvals es) g) :: lvals es
/-- .. and the innermost m of them are around. -/
def lenv : Nat → List (Nat × Nd) → List (Option Nd)
  | 0, es => lvals es
  | _ + 1, [] => []
  | m + 1, _ :: es => none :: lenv m es
theorem lvals_len : ∀ es, (lvals es).length = es.length
  | [] => rfl
  | (_, _) :: es => by simp [lvals, lvals_len es]
theorem lenv_len : ∀ m es, (lenv m es).length = es.length
  | 0, es => lvals_len es
  | _ + 1, [] => rfl
  | m + 1, _ :: es => by simp [lenv, lenv_len m es]
theorem lenv_in : ∀ (m i : Nat) (es : List (Nat × Nd)), i < m → i < es.length → ((lenv m es)[i]?).join = none
  | 0, _, _, h, _ => by omega
  | _ + 1, _, [], _, h => by simp at h
  | m + 1, 0, _ :: es, _, _ => rfl
  | m + 1, i + 1, _ :: es, h, h2 => by
    have := lenv_in m i es (by omega) (by simp at h2; omega)
    simpa [lenv] using this
theorem lenv_out : ∀ (m : Nat) (p : List (Nat × Nd)) (b : Nat) (g : Nd) (t : List (Nat × Nd)), m ≤ p.length → ((lenv m (p ++ (b, g) :: t))[p.length]?).join = some (cpN (lvals t) g)
  | 0, [], b, g, t, _ => rfl
  | 0, (b', g') :: p, b, g, t, _ => by
    have := lenv_out 0 p b g t (by omega)
    simpa [lenv, lvals] using this
  | m + 1, [], b, g, t, h => by simp at h
  | m + 1, (b', g') :: p, b, g, t, h => by
    have := lenv_out m p b g t (by simp at h; omega)
    simpa [lenv] using this

/-- Every recursion of the environment is linked in its place. -/
def EnvL (w0 : World) : List (Nat × Nd) → Prop
  | [] => True
  | (b, g) :: es => g.k = 4 ∧ wN g (es.length : Int) 0 = true ∧
      (∃ ks, LkN w0 g.k g.fr g.ix g.kids (blks es) (.iface ( /- t -/ 121) (.pointer (some ⟨b, 0, none⟩))) ks) ∧ b ∉ blks es ∧ EnvL w0 es

theorem EnvL.suffix {w0 : World} : ∀ (p es : List (Nat × Nd)), EnvL w0 (p ++ es) → EnvL w0 es
  | [], _, h => h
  | (_, _) :: p, es, h => EnvL.suffix p es h.2.2.2.2
theorem EnvL.nodup {w0 : World} : ∀ (es : List (Nat × Nd)), EnvL w0 es → (blks es).Nodup
  | [], _ => List.nodup_nil
  | (b, g) :: es, h => by
    rw [blks_cons]
    exact nodup_snoc (EnvL.nodup es h.2.2.2.2) h.2.2.2.1
theorem EnvL.below {w0 w : World} (hb : Same w0 w (List.range w0.heap.size)) : ∀ (es : List (Nat × Nd)), EnvL w0 es → EnvL w es
  | [], _ => trivial
  | (b, g) :: es, h => by
    obtain ⟨h1, h2, ⟨ks, h3⟩, h4, h5⟩ := h
    exact ⟨h1, h2, ⟨ks, h3.same (fun x hx => hb x (List.mem_range.2 (h3.lt x hx)))⟩, h4, EnvL.below hb es h5⟩
theorem EnvL.blk {w0 : World} : ∀ (es : List (Nat × Nd)), EnvL w0 es → ∀ x, x ∈ blks es → ∃ cs, Blk w0 x cs
  | [], _, x, hx => by simp [blks] at hx
  | (b, g) :: es, h, x, hx => by
    obtain ⟨h1, h2, ⟨ks, h3⟩, h4, h5⟩ := h
    rw [blks_cons, List.mem_append] at hx
    rcases hx with hx | hx
    · exact EnvL.blk es h5 x hx
    · rw [List.mem_singleton.1 hx]
      rcases h3 with ⟨h3, -⟩ | ⟨h3, -⟩ | ⟨-, L, s, u, ks', h3, hb, -⟩ | ⟨h3, -⟩
      · omega
      · omega
      · injection h3 with _ h3
        injection h3 with h3
        injection h3 with h3
        injection h3 with h3
        subst h3
        exact ⟨_, hb⟩
      · omega

theorem empty_of {fr : ByteArray} (h : fr.toList = []) : fr = ⟨#[]⟩ := by
  rw [ByteArray.toList_eq] at h
  cases fr with
  | mk d =>
    have h2 : d = #[] := by simpa using h
    rw [h2]
theorem empty_size {fr : ByteArray} (h : fr.toList = []) : fr.size ≤ maxLen := by
  rw [empty_of h]
  exact Nat.zero_le _
theorem int_wf {x : Int} (h0 : 0 ≤ x) (h1 : x ≤ 1000000000) : (Lit.int .i64 x).wf = true := by
  have e1 : IntKind.i64.min = -9223372036854775808 := rfl
  have e2 : IntKind.i64.max = 9223372036854775807 := rfl
  simp only [Lit.wf, Bool.and_eq_true, decide_eq_true_eq]
  rw [e1, e2]
  omega

/-- A node that fits its place fits into values. -/
theorem fit_of_w {g : Nd} {b u : Int} (h : wN g b u = true) (hu : 0 ≤ u) (hb : b ≤ 1000000) : Fit g := by
  unfold wN at h
  simp only [Bool.and_eq_true] at h
  obtain ⟨h1, h2⟩ := h
  have h0 : (Lit.int .i64 0).wf = true := by decide
  by_cases k1 : g.k = 1
  · rw [k1] at h1
    obtain ⟨a, c, -⟩ := shape_end h1
    refine ⟨empty_size a, by rw [k1]; decide, by rw [c]; exact h0⟩
  by_cases k2 : g.k = 2 ∨ g.k = 3
  · obtain ⟨a, c, -⟩ := shape_act k2 h1
    refine ⟨by rw [role_size a]; decide, by rcases k2 with e | e <;> rw [e] <;> decide, by rw [c]; exact h0⟩
  by_cases k4 : g.k = 4
  · rw [k4] at h1
    obtain ⟨a, c, -⟩ := shape_rec h1
    refine ⟨empty_size a, by rw [k4]; decide, by rw [c]; exact h0⟩
  by_cases k5 : g.k = 5
  · rw [k5] at h1
    obtain ⟨a, -⟩ := shape_var h1
    rw [if_pos k5] at h2
    simp only [Bool.and_eq_true, decide_eq_true_eq] at h2
    refine ⟨empty_size a, by rw [k5]; decide, ?_⟩
    exact int_wf (by omega) (by omega)
  · simp [shapeB, k1, k2, k4, k5] at h1

theorem EnvL.fits {w0 : World} : ∀ (es : List (Nat × Nd)), EnvL w0 es → es.length ≤ 1000000 → ∀ U, some U ∈ lvals es → Fit U
  | [], _, _, U, hU => by simp [lvals] at hU
  | (b, g) :: es, h, hl, U, hU => by
    obtain ⟨h1, h2, -, -, h5⟩ := h
    have hl2 : es.length ≤ 1000000 := by simp at hl; omega
    simp only [lvals, List.mem_cons, Option.some.injEq] at hU
    rcases hU with rfl | hU
    · exact cpN_fit (EnvL.fits es h5 hl2) (fit_of_w h2 (by omega) (by omega))
    · exact EnvL.fits es h5 hl2 U hU
theorem EnvL.fitsM {w0 : World} : ∀ (m : Nat) (es : List (Nat × Nd)), EnvL w0 es → es.length ≤ 1000000 → ∀ U, some U ∈ lenv m es → Fit U
  | 0, es, h, hl, U, hU => EnvL.fits es h hl U hU
  | _ + 1, [], _, _, U, hU => by simp [lenv] at hU
  | m + 1, (b, g) :: es, h, hl, U, hU => by
    simp only [lenv, List.mem_cons, reduceCtorEq, false_or] at hU
    exact EnvL.fitsM m es h.2.2.2.2 (by simp at hl; omega) U hU

/-- A linked variable is linked to its recursion. -/
theorem linked_var {w0 : World} {fr : ByteArray} {ix : Int} {kids : F} {es : List (Nat × Nd)} {v : Value} {ks : List Nat} (h : LkN w0 5 fr ix kids (blks es) v ks) :
    ∃ p b g t, es = p ++ (b, g) :: t ∧ ix = (p.length : Nat) ∧ v = .iface ( /- t -/ 125) (.agg #[.pointer (some ⟨b, 0, none⟩)]) := by
  rcases h with ⟨h, -⟩ | ⟨-, ⟨l, h0, h1, h2, rfl⟩, -⟩ | ⟨h, -⟩ | ⟨h, -⟩
  · exact absurd h (by decide)
  · obtain ⟨i, rfl⟩ := Int.eq_ofNat_of_zero_le h0
    rw [blks_len] at h1 h2
    have hi : i < es.length := by omega
    simp only [Int.toNat_natCast] at h2
    have h3 : (es.map Prod.fst)[i]? = some l := by
      unfold blks at h2
      rw [List.getElem?_reverse (by simp; omega)] at h2
      simp only [List.length_map] at h2
      rwa [show es.length - 1 - (es.length - 1 - i) = i by omega] at h2
    rw [List.getElem?_map, List.getElem?_eq_getElem hi] at h3
    have h4 : es[i].1 = l := by simpa using h3
    refine ⟨es.take i, es[i].1, es[i].2, es.drop (i + 1), ?_, ?_, ?_⟩
    · rw [show (es[i].1, es[i].2) = es[i] from rfl]
      rw [List.getElem_cons_drop hi]
      exact (List.take_append_drop i es).symm
    · rw [List.length_take]; omega
    · rw [h4]
  · exact absurd h (by decide)
  · rcases h with h | h <;> exact absurd h (by decide)

theorem nodup_rev {l : List Nat} : l.reverse.Nodup ↔ l.Nodup := by
  unfold List.Nodup
  rw [List.pairwise_reverse]
  constructor
  · exact fun h => h.imp Ne.symm
  · exact fun h => h.imp Ne.symm

/-! ### The scope holds the innermost m of them -/
theorem scope_in (p : List (Nat × Nd)) (b : Nat) (g : Nd) (t : List (Nat × Nd)) (m : Nat) (h : p.length < m) (hm : m ≤ (p ++ (b, g) :: t).length) :
    (blks ((p ++ (b, g) :: t).take m))[m - 1 - p.length]? = some b ∧ (blks ((p ++ (b, g) :: t).take m)).length = (m - 1 - p.length) + 1 + p.length := by
  have hl : ((p ++ (b, g) :: t).take m).length = m := by rw [List.length_take]; omega
  refine ⟨?_, by rw [blks_len, hl]; omega⟩
  unfold blks
  rw [List.getElem?_reverse (by rw [List.length_map, hl]; omega), List.length_map, hl, show m - 1 - (m - 1 - p.length) = p.length by omega, List.getElem?_map, List.getElem?_take_of_lt h, List.getElem?_append_right (Nat.le_refl _)]
  simp
theorem scope_out {w0 : World} (p : List (Nat × Nd)) (b : Nat) (g : Nd) (t : List (Nat × Nd)) (m : Nat) (h : m ≤ p.length) (he : EnvL w0 (p ++ (b, g) :: t)) : b ∉ blks ((p ++ (b, g) :: t).take m) := by
  intro hb
  have hnd := he.nodup
  rw [List.take_append_of_le_length h] at hb
  have hb2 : b ∈ p.map Prod.fst := by
    simp only [blks, List.mem_reverse, List.mem_map] at hb ⊢
    obtain ⟨x, hx, rfl⟩ := hb
    exact ⟨x, List.mem_of_mem_take hx, rfl⟩
  unfold blks at hnd
  rw [nodup_rev, List.map_append, List.nodup_append] at hnd
  exact hnd.2.2 b hb2 b (by simp) rfl
theorem scope_nodup {w0 : World} (es : List (Nat × Nd)) (m : Nat) (he : EnvL w0 es) : (blks (es.take m)).Nodup := by
  have := he.nodup
  unfold blks at this ⊢
  rw [nodup_rev] at this ⊢
  rw [List.map_take]
  exact this.sublist (List.take_sublist _ _)
theorem scope_mem {es : List (Nat × Nd)} {m x : Nat} (h : x ∈ blks (es.take m)) : x ∈ blks es := by
  simp only [blks, List.mem_reverse, List.mem_map] at h ⊢
  obtain ⟨y, hy, rfl⟩ := h
  exact ⟨y, List.mem_of_mem_take hy, rfl⟩
theorem scope_len (es : List (Nat × Nd)) (m : Nat) (h : m ≤ es.length) : (blks (es.take m)).length = m := by
  rw [blks_len, List.length_take]; omega
end Go.Proofs.YtgcefippeokmcaaDoor.Lo

/- The index of a variable in a scope of the program. -/
namespace Go.Proofs.YtgcefippeokmcaaDoor.Lo
open Go.RowKit

theorem Tryd.info123 : (Tryd.prog.info? ( /- t -/ 123)).map (fun i => (i.zero, i.size, i.bytes)) = some (some (.agg #[.nilIface]), 1, 16) := by kernel_rfl

theorem nodup_get {ps : List Nat} (h : ps.Nodup) {i j x : Nat} (hi : ps[i]? = some x) (hj : ps[j]? = some x) : i = j := by
  obtain ⟨h1, e1⟩ := List.getElem?_eq_some_iff.1 hi
  obtain ⟨h2, e2⟩ := List.getElem?_eq_some_iff.1 hj
  rcases Nat.lt_trichotomy i j with hlt | heq | hlt
  · exact absurd (e1.trans e2.symm) (List.pairwise_iff_getElem.1 h i j h1 h2 hlt)
  · exact heq
  · exact absurd (e2.trans e1.symm) (List.pairwise_iff_getElem.1 h j i h2 h1 hlt)

set_option maxHeartbeats 800000 in
set_option maxRecDepth 100000 in
/-- index: the recursion is around. -/
theorem idx_calls (w : World) (dp un : Int) (lv : Value) (ps : List Nat) (l i j : Nat) (hp : Ps w lv ps) (hnd : ps.Nodup) (hl : ps[j]? = some l) (hj : ps.length = j + 1 + i) (hlen : ps.length ≤ 41) (hblk : ∀ x, x ∈ ps → ∃ cs, Blk w x cs) :
    Calls Tryd.prog 113 #[.agg #[.int .i64 dp, lv, .int .i64 un], .pointer (some ⟨l, 0, none⟩)] w fun e w' => e = .returned (.int .i64 i) ∧ Below w.heap.size w w' := by
  rcases hp with ⟨rfl, -⟩ | ⟨b, cap, hne, rfl, hcap, hmax, hcell⟩
  · exfalso
    have : (0 : Nat) = j + 1 + i := hj
    omega
  obtain ⟨i0, hi, hz0, hz1, hz2⟩ := info_parts Tryd.info123
  have HI := hide hi
  have HI1 : Hid (i0.size ≠ 0) := by unfold Hid; rw [hz1]; decide
  have HBK := hide hblk
  clear hi hz0 hz1 hz2 hblk
  obtain ⟨n, hn⟩ : ∃ n, n = ps.length := ⟨_, rfl⟩
  have hn41 : n ≤ 41 := by omega
  have hin : i < n := by omega
  rw [← hn]
  have HC := hide hcell
  have HND := hide hnd
  have HL := hide hl
  have HJ : Hid (n = j + 1 + i ∧ n = ps.length) := ⟨by omega, hn⟩
  have hb0 := alloc_below w (.cells #[.int .i64 dp, .slice (some ⟨b, 0, none⟩) n cap, .int .i64 un] ( /- t -/ 77))
  have hbx := Blk.now w #[.int .i64 dp, .slice (some ⟨b, 0, none⟩) n cap, .int .i64 un] ( /- t -/ 77)
  clear hcell hnd hl hj hcap hmax hne hlen hn
  go_enter Tryd.func113, Tryd.ntmps113
  go_wp2_with fail
  generalize (w.alloc (.cells #[.int .i64 dp, .slice (some ⟨b, 0, none⟩) n cap, .int .i64 un] ( /- t -/ 77))) = W at *
  have c1 : W.cell? ⟨w.heap.size, 1, none⟩ = some (.slice (some ⟨b, 0, none⟩) n cap) := hbx.cell 1
  have hW : w.heap.size < W.heap.size := hbx.lt
  have HB := hide hb0
  clear hb0 hbx
  go_loopw [9] (fun iv wr => ∃ k : Nat, iv = .int .i64 k ∧ k ≤ i ∧ wr = W) (fun iv _ => i + 1 - (intOf iv).toNat)
  case atStart => exact ⟨0, rfl, Nat.zero_le _, rfl⟩
  case round =>
    obtain ⟨k, rfl, hk, rfl⟩ := hrel
    obtain ⟨r, hr⟩ : ∃ r, r + 1 + k = n := ⟨n - 1 - k, by omega⟩
    have hidx : (n : Int) - 1 - k = (r : Nat) := by omega
    have hkn : k < n := by omega
    have hr0 : (0 : Int) ≤ (r : Nat) := by omega
    have hrn : r < n := by omega
    obtain ⟨x, hx⟩ : ∃ x, ps[r]? = some x := ⟨ps[r]'(by have := HJ.out.2; omega), List.getElem?_eq_getElem (by have := HJ.out.2; omega)⟩
    have z0 : wr.cell? ⟨b, r, none⟩ = some (.pointer (some ⟨x, 0, none⟩)) := (Still.of_below HB.out) _ _ (HC.out _ _ hx)
    have hbw : b < wr.heap.size := World.block_lt_of_cell? _ _ z0
    by_cases hq : k = i
    · have hrj : r = j := by have := HJ.out.1; omega
      have hxl : x = l := by
        have := HL.out
        rw [hrj, this] at hx
        exact (Option.some.inj hx).symm
      have HK := hide hq
      subst hxl
      have n1 := run_eql_ptr_same (P := Tryd.prog) wr ⟨x, 0, none⟩ Tryd.underlying121 HI.out
      clear hx hr hrj hq
      go_wp2_with fail
      go_ret
      exact ⟨by rw [HK.out]; rfl, HB.out⟩
    · have hxl : x ≠ l := by
        rintro rfl
        have := nodup_get HND.out hx HL.out
        have := HJ.out.1
        omega
      have hki : k + 1 ≤ i := by omega
      have HKI := hide hki
      obtain ⟨cx, tx, hbx⟩ := HBK.out x (List.mem_of_getElem? hx)
      obtain ⟨cl, tl, hbl⟩ := HBK.out l (List.mem_of_getElem? HL.out)
      have n1 := run_eql_ptr_other (P := Tryd.prog) wr (a := ⟨x, 0, none⟩) (b := ⟨l, 0, none⟩) Tryd.underlying121 HI.out HI1.out (fun e => hxl (by injection e)) ((HB.out.block x (Array.getElem?_eq_some_iff.1 hbx).1).trans hbx) ((HB.out.block l (Array.getElem?_eq_some_iff.1 hbl).1).trans hbl)
      clear hx hr hq hki hbx hbl
      go_wp2_with fail
      refine ⟨⟨k + 1, by go_num, HKI.out, trivial⟩, ?_⟩
      have h9 := HKI.out
      simp [intOf]
      omega
end Go.Proofs.YtgcefippeokmcaaDoor.Lo

/- A recursion that is not in a scope of the program has no index there. -/
namespace Go.Proofs.YtgcefippeokmcaaDoor.Lo
open Go.RowKit

set_option maxHeartbeats 800000 in
set_option maxRecDepth 100000 in
/-- index: the recursion is not around. -/
theorem idx_none (w : World) (dp un : Int) (lv : Value) (ps : List Nat) (l : Nat) (hp : Ps w lv ps) (hl : l ∉ ps) (hlen : ps.length ≤ 41) (hblk : ∀ x, x ∈ ps → ∃ cs, Blk w x cs) (hbl : ∃ cs, Blk w l cs) :
    Calls Tryd.prog 113 #[.agg #[.int .i64 dp, lv, .int .i64 un], .pointer (some ⟨l, 0, none⟩)] w fun e w' => e = .returned (.int .i64 (-1)) ∧ Below w.heap.size w w' := by
  rcases hp with ⟨rfl, rfl⟩ | ⟨b, cap, hne, rfl, hcap, hmax, hcell⟩
  · have hb0 := alloc_below w (.cells #[.int .i64 dp, .slice none 0 0, .int .i64 un] ( /- t -/ 77))
    have hbx := Blk.now w #[.int .i64 dp, .slice none 0 0, .int .i64 un] ( /- t -/ 77)
    clear hl hlen hblk hbl
    go_enter Tryd.func113, Tryd.ntmps113
    go_wp2_with fail
    generalize (w.alloc (.cells #[.int .i64 dp, .slice none 0 0, .int .i64 un] ( /- t -/ 77))) = W at *
    have HB := hide hb0
    clear hb0 hbx
    go_loopw [9] (fun iv wr => iv = .int .i64 0 ∧ wr = W) (fun iv _ => 1 - (intOf iv).toNat)
    case atStart => exact ⟨rfl, rfl⟩
    case round =>
      obtain ⟨rfl, rfl⟩ := hrel
      go_wp2_with fail
      go_ret
      exact ⟨rfl, HB.out⟩
  obtain ⟨i0, hi, hz0, hz1, hz2⟩ := info_parts Tryd.info123
  have HI := hide hi
  have HI1 : Hid (i0.size ≠ 0) := by unfold Hid; rw [hz1]; decide
  have HBK := hide hblk
  have HBL := hide hbl
  have HL := hide hl
  clear hi hz0 hz1 hz2 hblk hbl hl
  obtain ⟨n, hn⟩ : ∃ n, n = ps.length := ⟨_, rfl⟩
  have hn41 : n ≤ 41 := by omega
  rw [← hn]
  have HC := hide hcell
  have HN := hide hn
  have hb0 := alloc_below w (.cells #[.int .i64 dp, .slice (some ⟨b, 0, none⟩) n cap, .int .i64 un] ( /- t -/ 77))
  have hbx := Blk.now w #[.int .i64 dp, .slice (some ⟨b, 0, none⟩) n cap, .int .i64 un] ( /- t -/ 77)
  clear hcell hcap hmax hne hlen hn
  go_enter Tryd.func113, Tryd.ntmps113
  go_wp2_with fail
  generalize (w.alloc (.cells #[.int .i64 dp, .slice (some ⟨b, 0, none⟩) n cap, .int .i64 un] ( /- t -/ 77))) = W at *
  have c1 : W.cell? ⟨w.heap.size, 1, none⟩ = some (.slice (some ⟨b, 0, none⟩) n cap) := hbx.cell 1
  have hW : w.heap.size < W.heap.size := hbx.lt
  have HB := hide hb0
  clear hb0 hbx
  go_loopw [9] (fun iv wr => ∃ k : Nat, iv = .int .i64 k ∧ k ≤ n ∧ wr = W) (fun iv _ => n + 1 - (intOf iv).toNat)
  case atStart => exact ⟨0, rfl, Nat.zero_le _, rfl⟩
  case round =>
    obtain ⟨k, rfl, hk, rfl⟩ := hrel
    by_cases hkn : k < n
    · obtain ⟨r, hr⟩ : ∃ r, r + 1 + k = n := ⟨n - 1 - k, by omega⟩
      have hidx : (n : Int) - 1 - k = (r : Nat) := by omega
      have hr0 : (0 : Int) ≤ (r : Nat) := by omega
      have hrn : r < n := by omega
      obtain ⟨x, hx⟩ : ∃ x, ps[r]? = some x := ⟨ps[r]'(by have := HN.out; omega), List.getElem?_eq_getElem (by have := HN.out; omega)⟩
      have z0 : wr.cell? ⟨b, r, none⟩ = some (.pointer (some ⟨x, 0, none⟩)) := (Still.of_below HB.out) _ _ (HC.out _ _ hx)
      have hbw : b < wr.heap.size := World.block_lt_of_cell? _ _ z0
      have hxl : x ≠ l := by
        rintro rfl
        exact HL.out (List.mem_of_getElem? hx)
      obtain ⟨cx, tx, hbx⟩ := HBK.out x (List.mem_of_getElem? hx)
      obtain ⟨cl, tl, hbl⟩ := HBL.out
      have n1 := run_eql_ptr_other (P := Tryd.prog) wr (a := ⟨x, 0, none⟩) (b := ⟨l, 0, none⟩) Tryd.underlying121 HI.out HI1.out (fun e => hxl (by injection e)) ((HB.out.block x (Array.getElem?_eq_some_iff.1 hbx).1).trans hbx) ((HB.out.block l (Array.getElem?_eq_some_iff.1 hbl).1).trans hbl)
      have HKN := hide hkn
      clear hx hr hbx hbl hk
      go_wp2_with fail
      refine ⟨⟨k + 1, by go_num, HKN.out, trivial⟩, ?_⟩
      have h9 := HKN.out
      simp [intOf]
      omega
    · have hge : n ≤ k := by omega
      have hknn : k = n := by omega
      subst hknn
      clear hk hkn
      go_wp2_with fail
      go_ret
      exact ⟨rfl, HB.out⟩
end Go.Proofs.YtgcefippeokmcaaDoor.Lo

/- unlinkNode of the program: what it owes, and the values of the written tree. -/
namespace Go.Proofs.YtgcefippeokmcaaDoor.Lo
open Go.RowKit

theorem Box4.only {w w' : World} {b c : Nat} {v0 v1 v2 v3 : Value} (h : Box4 w b v0 v1 v2 v3) (ho : Only c w w') (hb : b ≠ c) : Box4 w' b v0 v1 v2 v3 := h.same (ho.block _ h.lt hb)
theorem Gr.only {w w' : World} {base c : Nat} {v : Value} {f : F} {bs : List Nat} (h : Gr w base v f bs) (ho : Only c w w') (hc : c < base) : Gr w' base v f bs :=
  h.same (fun b hb => ho.block b (h.lt b hb) (by have := h.ge b hb; omega))
theorem Pt.only {w w' : World} {c : Nat} {a : Int} (hc : Ctr w c a) (ho : Only c w w') {v : Value} {ps : List Nat} (h : Pt w v ps) : Pt w' v ps := by
  rcases h with h | ⟨b, cap, cs, h1, h2, h3, h4, h5, h6⟩
  · exact Or.inl h
  · refine Or.inr ⟨b, cap, cs, h1, h2, h3, h4, ?_, h6⟩
    have hne : b ≠ c := by
      rintro rfl
      obtain ⟨t, hh⟩ := hc
      rw [h5] at hh
      injection hh with hh
      injection hh with hh
      cases ps with
      | nil => exact absurd rfl h1
      | cons l ps =>
        have := h6 0 l rfl
        rw [hh] at this
        simp at this
    rw [ho.block b (Array.getElem?_eq_some_iff.1 h5).1 hne]
    exact h5

/-- What unlinkNode owes: the tree in new memory and its nodes counted, if it keeps the limits; else nothing. -/
def CpPost (c : Nat) (N : Nd) (d : Int) (a : Nat) (w : World) (e : Ending) (w' : World) : Prop :=
  ∃ a' : Nat, Only c w w' ∧ Ctr w' c a' ∧
    ((a + (N.kids.sz + 1) ≤ 400 ∧ d + (hF N.kids : Int) ≤ 40 ∧ a' = a + (N.kids.sz + 1) ∧ ∃ u bs, e = .returned (.tuple #[.agg #[.int .i64 N.k, .string N.fr, .int .i64 N.ix, u], .bool true]) ∧ Ow w' u N.kids bs ∧ (∀ b, b ∈ bs → w.heap.size ≤ b) ∧ bs.Nodup) ∨
     (¬ (a + (N.kids.sz + 1) ≤ 400 ∧ d + (hF N.kids : Int) ≤ 40) ∧ e = .returned (.tuple #[.agg #[.int .i64 0, .string ⟨#[]⟩, .int .i64 0, .slice none 0 0], .bool false])))

theorem CpPost.no {c : Nat} {N : Nd} {d : Int} {a a' : Nat} {w w' : World} (ho : Only c w w') (hc : Ctr w' c a') (h : ¬ (a + (N.kids.sz + 1) ≤ 400 ∧ d + (hF N.kids : Int) ≤ 40)) :
    CpPost c N d a w (.returned (.tuple #[.agg #[.int .i64 0, .string ⟨#[]⟩, .int .i64 0, .slice none 0 0], .bool false])) w' := ⟨a', ho, hc, Or.inr ⟨h, rfl⟩⟩
theorem CpPost.yes {c : Nat} {N : Nd} {d : Int} {a a' : Nat} {w w' : World} {u : Value} {bs : List Nat} (ho : Only c w w') (hc : Ctr w' c a') (h1 : a + (N.kids.sz + 1) ≤ 400) (h2 : d + (hF N.kids : Int) ≤ 40) (h3 : a' = a + (N.kids.sz + 1))
    (how : Ow w' u N.kids bs) (hge : ∀ b, b ∈ bs → w.heap.size ≤ b) (hnd : bs.Nodup) {k ix : Int} {fr : ByteArray} (hk : k = N.k) (hf : fr = N.fr) (hi : ix = N.ix) :
    CpPost c N d a w (.returned (.tuple #[.agg #[.int .i64 k, .string fr, .int .i64 ix, u], .bool true])) w' :=
  ⟨a', ho, hc, Or.inl ⟨h1, h2, h3, u, bs, by rw [hk, hf, hi], how, hge, hnd⟩⟩
/-- The same from a later world on. -/
theorem CpPost.later {c : Nat} {N : Nd} {d : Int} {a : Nat} {w0 w : World} {e : Ending} {w' : World} (h : CpPost c N d a w e w') (hb : Only c w0 w) : CpPost c N d a w0 e w' := by
  obtain ⟨a', ho, hc, h⟩ := h
  refine ⟨a', hb.trans ho, hc, ?_⟩
  rcases h with ⟨h1, h2, h3, u, bs, h4, h5, h6, h7⟩ | h
  · exact Or.inl ⟨h1, h2, h3, u, bs, h4, h5, fun b hm => Nat.le_trans hb.size (h6 b hm), h7⟩
  · exact Or.inr h

def UnAt (q n : Nat) : Prop := ∀ (w0 w : World) (c a : Nat) (dp un k ix : Int) (fr : ByteArray) (v lv : Value) (kids : F) (es : List (Nat × Nd)) (m : Nat) (ks : List Nat), kids.sz < n → es.length = q + m →
  LkN w0 k fr ix kids (blks es) v ks → EnvL w0 es → wN ⟨k, fr, ix, kids⟩ (es.length : Int) 0 = true → Below w0.heap.size w0 w → w0.heap.size ≤ c → Ctr w c a → a ≤ 400 → 1 ≤ dp → dp ≤ 41 → (m : Int) + 1 ≤ dp → 0 ≤ un → un + 1 ≤ dp → q ≤ 1000 →
  Pt w lv (blks (es.take m)) →
  Calls Tryd.prog 102 #[v, .agg #[.int .i64 dp, lv, .int .i64 un], .pointer (some ⟨c, 0, none⟩)] w (CpPost c (cpN (lenv m es) ⟨k, fr, ix, kids⟩) dp a w)

/-! ### The values -/
/-- A branch in its place. -/
theorem kid_act {k ix : Int} {fr : ByteArray} {kids : F} {b : Int} (hw : wN ⟨k, fr, ix, kids⟩ b 0 = true) (hk : k = 2 ∨ k = 3) {p rest : F} {lab : ByteArray} {kd ix' : Int} {fr' : ByteArray} {kids' : F}
    (he : kids = p.app (.cons lab kd fr' ix' kids' rest)) : wN ⟨kd, fr', ix', kids'⟩ b 0 = true := by
  unfold wN at hw
  simp only [Bool.and_eq_true] at hw
  obtain ⟨h1, h2⟩ := hw
  rw [if_neg (by omega), if_neg (by omega), if_pos hk, he, wF_app] at h2
  simp only [wF, Bool.and_eq_true] at h2
  unfold wN
  simp only [Bool.and_eq_true]
  exact h2.2.1
/-- A label of an action is one letter. -/
theorem lab_act {k ix : Int} {fr : ByteArray} {kids : F} {b : Int} (hw : wN ⟨k, fr, ix, kids⟩ b 0 = true) (hk : k = 2 ∨ k = 3) {p rest : F} {lab : ByteArray} {kd ix' : Int} {fr' : ByteArray} {kids' : F}
    (he : kids = p.app (.cons lab kd fr' ix' kids' rest)) : lab.size = 1 := by
  unfold wN at hw
  simp only [Bool.and_eq_true] at hw
  obtain ⟨-, -, h3⟩ := shape_act hk hw.1
  have key : ∀ (p : F) (q : Option ByteArray), ascB q (p.app (.cons lab kd fr' ix' kids' rest)) = true → labB lab = true := by
    intro p
    induction p with
    | nil =>
      intro q h
      simp only [F.app, ascB, Bool.and_eq_true] at h
      exact h.1.1
    | cons l k2 f2 i2 c2 r2 _ ih =>
      intro q h
      simp only [F.app, ascB, Bool.and_eq_true] at h
      exact ih _ h.2
  have h4 : ascB none kids = true := by
    have := h3
    unfold branchesB at this
    simp only [Bool.and_eq_true] at this
    exact this.1
  rw [he] at h4
  exact lab_size (key p none h4)

end Go.Proofs.YtgcefippeokmcaaDoor.Lo

/- unlinkNode of the program: an end, a variable whose recursion is around. -/
namespace Go.Proofs.YtgcefippeokmcaaDoor.Lo
open Go.RowKit

/-- What stands in memory while a node is written out. -/
structure UnSt (w wd : World) (c a : Nat) (dp un : Int) (sv : Value) : Prop where
  hs : Blk wd w.heap.size #[.int .i64 dp, sv, .int .i64 un]
  hz : Box4 wd (w.heap.size + 1) (.int .i64 0) (.string ⟨#[]⟩) (.int .i64 0) (.slice none 0 0)
  hc : Ctr wd c a
  ho : Only c w wd

theorem UnSt.below {w wd we : World} {c a : Nat} {dp un : Int} {sv : Value} (h : UnSt w wd c a dp un sv) (hb : Below wd.heap.size wd we) : UnSt w we c a dp un sv :=
  ⟨h.hs.below hb, h.hz.below hb, h.hc.below hb, h.ho.below hb⟩
theorem UnSt.only {w wd we : World} {c a a' : Nat} {dp un : Int} {sv : Value} (h : UnSt w wd c a dp un sv) (hc : c < w.heap.size) (ho : Only c wd we) (hc' : Ctr we c a') : UnSt w we c a' dp un sv :=
  ⟨h.hs.only ho (by omega), h.hz.only ho (by omega), hc', h.ho.trans ho⟩
theorem UnSt.count {w wd : World} {c a : Nat} {dp un : Int} {sv : Value} (h : UnSt w wd c a dp un sv) (hc : c < w.heap.size) : UnSt w (wd.setCell ⟨c, 0, none⟩ (.int .i64 ((a : Int) + 1))) c (a + 1) dp un sv := by
  refine h.only hc ((Only.refl c wd).setCell (Or.inl rfl) _) ?_
  have := h.hc.set ((a : Int) + 1)
  rwa [show ((a + 1 : Nat) : Int) = (a : Int) + 1 by omega]
/-- The boxes at the start. -/
theorem UnSt.start {w : World} {c a : Nat} (hc : Ctr w c a) (dp un : Int) (sv : Value) (t1 t2 : TypeId) :
    UnSt w ((w.alloc (.cells #[.int .i64 dp, sv, .int .i64 un] t1)).alloc (.cells #[.int .i64 0, .string ⟨#[]⟩, .int .i64 0, .slice none 0 0] t2)) c a dp un sv := by
  have hA := alloc_below w (.cells #[.int .i64 dp, sv, .int .i64 un] t1)
  have hB := hA.alloc (by simp) (.cells #[.int .i64 0, .string ⟨#[]⟩, .int .i64 0, .slice none 0 0] t2)
  have h1 := Blk.now w #[.int .i64 dp, sv, .int .i64 un] t1
  have h2 := Box4.now (w.alloc (.cells #[.int .i64 dp, sv, .int .i64 un] t1)) (.int .i64 0) (.string ⟨#[]⟩) (.int .i64 0) (.slice none 0 0) t2
  rw [show (w.alloc (.cells #[.int .i64 dp, sv, .int .i64 un] t1)).heap.size = w.heap.size + 1 from by simp] at h2
  exact ⟨h1.below (alloc_below _ _), h2, hc.below hB, (Only.refl c w).below hB⟩

theorem ctr_setAll {w : World} {c b0 : Nat} {a' : Int} (hc : Ctr w c a') (hcb : c ≠ b0) (v0 v1 v2 v3 : Value) :
    Ctr ((((w.setCell ⟨b0, 0, none⟩ v0).setCell ⟨b0, 1, none⟩ v1).setCell ⟨b0, 2, none⟩ v2).setCell ⟨b0, 3, none⟩ v3) c a' :=
  (((hc.setOther hcb _).setOther hcb _).setOther hcb _).setOther hcb _
theorem only_setAll {c : Nat} {a b : World} (h : Only c a b) {b0 : Nat} (hb : a.heap.size ≤ b0) (v0 v1 v2 v3 : Value) :
    Only c a ((((b.setCell ⟨b0, 0, none⟩ v0).setCell ⟨b0, 1, none⟩ v1).setCell ⟨b0, 2, none⟩ v2).setCell ⟨b0, 3, none⟩ v3) :=
  (((h.setCell (Or.inr hb) _).setCell (Or.inr hb) _).setCell (Or.inr hb) _).setCell (Or.inr hb) _
theorem same_setAll {w : World} {bs : List Nat} {b0 : Nat} (q : ∀ b, b ∈ bs → b ≠ b0) (v0 v1 v2 v3 : Value) :
    Same w ((((w.setCell ⟨b0, 0, none⟩ v0).setCell ⟨b0, 1, none⟩ v1).setCell ⟨b0, 2, none⟩ v2).setCell ⟨b0, 3, none⟩ v3) bs :=
  ((((Same.refl _ _).setCell q _).setCell q _).setCell q _).setCell q _

/-- A failure, told by the result's box. -/
theorem UnSt.no {w wd : World} {c a a' : Nat} {dp un : Int} {sv : Value} {N : Nd} {d : Int} (h : UnSt w wd c a' dp un sv) (hcl : c < w.heap.size) (hno : ¬ (a + (N.kids.sz + 1) ≤ 400 ∧ d + (hF N.kids : Int) ≤ 40)) (v0 v1 v2 v3 : Value) :
    CpPost c N d a w (.returned (.tuple #[.agg #[.int .i64 0, .string ⟨#[]⟩, .int .i64 0, .slice none 0 0], .bool false]))
      ((((wd.setCell ⟨w.heap.size + 1, 0, none⟩ v0).setCell ⟨w.heap.size + 1, 1, none⟩ v1).setCell ⟨w.heap.size + 1, 2, none⟩ v2).setCell ⟨w.heap.size + 1, 3, none⟩ v3) :=
  CpPost.no (only_setAll h.ho (by omega) _ _ _ _) (ctr_setAll h.hc (by omega) _ _ _ _) hno
/-- A leaf. -/
theorem UnSt.leaf {w wd : World} {c a : Nat} {dp un : Int} {sv : Value} {k ix : Int} {fr : ByteArray} {d : Int} (h : UnSt w wd c (a + 1) dp un sv) (hcl : c < w.heap.size) (h1 : a + 1 ≤ 400) (h2 : d ≤ 40) (v0 v1 v2 v3 : Value) :
    CpPost c ⟨k, fr, ix, .nil⟩ d a w (.returned (.tuple #[.agg #[.int .i64 k, .string fr, .int .i64 ix, .slice none 0 0], .bool true]))
      ((((wd.setCell ⟨w.heap.size + 1, 0, none⟩ v0).setCell ⟨w.heap.size + 1, 1, none⟩ v1).setCell ⟨w.heap.size + 1, 2, none⟩ v2).setCell ⟨w.heap.size + 1, 3, none⟩ v3) :=
  CpPost.yes (bs := []) (a' := a + 1) (only_setAll h.ho (by omega) _ _ _ _) (ctr_setAll h.hc (by omega) _ _ _ _) (by simpa [F.sz] using h1) (by simpa [hF] using h2) (by simp [F.sz]) ⟨none, 0, rfl, Nat.le_refl _, Nat.zero_le _, Or.inl ⟨rfl, rfl⟩⟩ (fun _ hb => absurd hb List.not_mem_nil) List.nodup_nil rfl rfl rfl

set_option maxHeartbeats 1000000 in
set_option maxRecDepth 100000 in
theorem un_end (w : World) (c a : Nat) (dp un : Int) (lv : Value) (ps : List Nat) (hc : Ctr w c a) (ha : a ≤ 400) (hd1 : 1 ≤ dp) (hd2 : dp ≤ 41) (hp : Pt w lv ps) :
    Calls Tryd.prog 102 #[.iface ( /- t -/ 143) (.agg #[]), .agg #[.int .i64 dp, lv, .int .i64 un], .pointer (some ⟨c, 0, none⟩)] w (CpPost c ⟨1, ⟨#[]⟩, 0, .nil⟩ dp a w) := by
  obtain ⟨la, lcap, rfl, -, -⟩ := hp.ps.val
  have HST := hide ((UnSt.start hc dp un (.slice la ps.length lcap) ( /- t -/ 77) ( /- t -/ 25)).below (alloc_below _ (.cells #[.pointer none] ( /- t -/ 125))))
  have hcl := hc.lt
  clear hp hc
  have n1 := taEndVar
  have n2 := taEndLoop
  have n3 := taEndAct
  go_enter Tryd.func102, Tryd.ntmps102
  go_upto_region 4 with fail
  generalize ((w.alloc (.cells #[.int .i64 dp, .slice la ps.length lcap, .int .i64 un] ( /- t -/ 77))).alloc (.cells #[.int .i64 0, .string ⟨#[]⟩, .int .i64 0, .slice none 0 0] ( /- t -/ 25))).alloc (.cells #[.pointer none] ( /- t -/ 125)) = W at *
  have cc := HST.out.hc.cell
  have cf := HST.out.hc.frozen
  have cl := HST.out.hc.lt
  have s0 : W.cell? ⟨w.heap.size, 0, none⟩ = some (.int .i64 dp) := HST.out.hs.cell 0
  have sl := HST.out.hs.lt
  obtain ⟨z0, z1, z2, z3⟩ := HST.out.hz.cells
  have fz := HST.out.hz.frozen
  have hzl := HST.out.hz.lt
  by_cases hm4 : 400 ≤ a
  · go_wp2_with fail
    refine bodyPost_ret (v := .tuple #[.agg #[.int .i64 0, .string ⟨#[]⟩, .int .i64 0, .slice none 0 0], .bool false]) (by simp [results, Tryd.results102, go_sem, *]) rfl ?_
    exact UnSt.no (HST.out.count hcl) hcl (fun h => by have := h.1; omega) _ _ _ _
  by_cases hd4 : 40 < dp
  · go_wp2_with fail
    refine bodyPost_ret (v := .tuple #[.agg #[.int .i64 0, .string ⟨#[]⟩, .int .i64 0, .slice none 0 0], .bool false]) (by simp [results, Tryd.results102, go_sem, *]) rfl ?_
    exact UnSt.no (HST.out.count hcl) hcl (fun h => by have := h.2; omega) _ _ _ _
  · go_wp2_with fail
    refine bodyPost_ret (v := .tuple #[.agg #[.int .i64 1, .string ⟨#[]⟩, .int .i64 0, .slice none 0 0], .bool true]) (by simp [results, Tryd.results102, go_sem, *]) rfl ?_
    exact UnSt.leaf (HST.out.count hcl) hcl (by omega) (by omega) _ _ _ _

set_option maxHeartbeats 1000000 in
set_option maxRecDepth 100000 in
/-- A variable whose recursion is around. -/
theorem un_var (w0 w : World) (c a : Nat) (dp un : Int) (i j l : Nat) (lv : Value) (ps : List Nat) (hB : Below w0.heap.size w0 w) (hc0 : w0.heap.size ≤ c) (hc : Ctr w c a) (ha : a ≤ 400) (hd1 : 1 ≤ dp) (hd2 : dp ≤ 41) (hp : Pt w lv ps)
    (hnd : ps.Nodup) (hpb : ∀ x, x ∈ ps → ∃ cs, Blk w0 x cs) (hl : ps[j]? = some l) (hj : ps.length = j + 1 + i) (hlen : ps.length ≤ 41) :
    Calls Tryd.prog 102 #[.iface ( /- t -/ 125) (.agg #[.pointer (some ⟨l, 0, none⟩)]), .agg #[.int .i64 dp, lv, .int .i64 un], .pointer (some ⟨c, 0, none⟩)] w (CpPost c ⟨5, ⟨#[]⟩, (i : Int), .nil⟩ dp a w) := by
  obtain ⟨la, lcap, rfl, -, -⟩ := hp.ps.val
  have hb3 := ((alloc_below w (.cells #[.int .i64 dp, .slice la ps.length lcap, .int .i64 un] ( /- t -/ 77))).alloc (by simp) (.cells #[.int .i64 0, .string ⟨#[]⟩, .int .i64 0, .slice none 0 0] ( /- t -/ 25))).alloc (by simp; omega) (.cells #[.pointer (some ⟨l, 0, none⟩)] ( /- t -/ 125))
  have HST := hide ((UnSt.start hc dp un (.slice la ps.length lcap) ( /- t -/ 77) ( /- t -/ 25)).below (alloc_below _ (.cells #[.pointer (some ⟨l, 0, none⟩)] ( /- t -/ 125))))
  have hvb := alloc_last ((w.alloc (.cells #[.int .i64 dp, .slice la ps.length lcap, .int .i64 un] ( /- t -/ 77))).alloc (.cells #[.int .i64 0, .string ⟨#[]⟩, .int .i64 0, .slice none 0 0] ( /- t -/ 25))) #[.pointer (some ⟨l, 0, none⟩)] ( /- t -/ 125)
  have hcl := hc.lt
  have HP3 := hide (hp.below hb3)
  have HB3 := hide (hB.trans (hb3.mono hB.size))
  have HW := hide hB
  have HND := hide hnd
  have HPB := hide hpb
  have HL := hide hl
  have HJ := hide hj
  have HVB := hide hvb
  have hi0 : ¬ ((i : Int) < 0) := by omega
  clear hp hc hB hnd hpb hl hj hb3 hvb
  have n1 := taVarVar
  go_enter Tryd.func102, Tryd.ntmps102
  go_wp2_with fail
  generalize ((w.alloc (.cells #[.int .i64 dp, .slice la ps.length lcap, .int .i64 un] ( /- t -/ 77))).alloc (.cells #[.int .i64 0, .string ⟨#[]⟩, .int .i64 0, .slice none 0 0] ( /- t -/ 25))).alloc (.cells #[.pointer (some ⟨l, 0, none⟩)] ( /- t -/ 125)) = W at *
  refine (idx_calls W dp un _ ps l i j HP3.out.ps HND.out HL.out HJ.out hlen (fun x hx => by obtain ⟨cs, h⟩ := HPB.out x hx; exact ⟨cs, h.below HB3.out⟩)).mono ?_
  rintro e w1 ⟨rfl, hb⟩
  have HST1 := hide (HST.out.below hb)
  have HP1 := hide (HP3.out.below hb)
  have HB1 := hide (HB3.out.trans (hb.mono HB3.out.size))
  clear hb HST HP3 HB3 HVB
  have cc := HST1.out.hc.cell
  have cf := HST1.out.hc.frozen
  have cl := HST1.out.hc.lt
  have s0 : w1.cell? ⟨w.heap.size, 0, none⟩ = some (.int .i64 dp) := HST1.out.hs.cell 0
  have s1 : w1.cell? ⟨w.heap.size, 1, none⟩ = some (.slice la ps.length lcap) := HST1.out.hs.cell 1
  have s2 : w1.cell? ⟨w.heap.size, 2, none⟩ = some (.int .i64 un) := HST1.out.hs.cell 2
  have sl := HST1.out.hs.lt
  obtain ⟨z0, z1, z2, z3⟩ := HST1.out.hz.cells
  have fz := HST1.out.hz.frozen
  have hzl := HST1.out.hz.lt
  by_cases hm4 : 400 ≤ a
  · go_wp2_with fail
    refine bodyPost_ret (v := .tuple #[.agg #[.int .i64 0, .string ⟨#[]⟩, .int .i64 0, .slice none 0 0], .bool false]) (by simp [results, Tryd.results102, go_sem, *]) rfl ?_
    exact UnSt.no (HST1.out.count hcl) hcl (fun h => by have := h.1; omega) _ _ _ _
  by_cases hd4 : 40 < dp
  · go_wp2_with fail
    refine bodyPost_ret (v := .tuple #[.agg #[.int .i64 0, .string ⟨#[]⟩, .int .i64 0, .slice none 0 0], .bool false]) (by simp [results, Tryd.results102, go_sem, *]) rfl ?_
    exact UnSt.no (HST1.out.count hcl) hcl (fun h => by have := h.2; omega) _ _ _ _
  · go_wp2_with fail
    have hst2 := HST1.out.count hcl
    have hp2 := HP1.out.only HST1.out.hc ((Only.refl c w1).setCell (p := ⟨c, 0, none⟩) (Or.inl rfl) (.int .i64 ((a : Int) + 1)))
    have hb2 := HB1.out.setCell (p := ⟨c, 0, none⟩) hc0 (.int .i64 ((a : Int) + 1))
    generalize w1.setCell ⟨c, 0, none⟩ (.int .i64 ((a : Int) + 1)) = W2 at *
    have hbA := alloc_below W2 (.cells #[.pointer (some ⟨l, 0, none⟩)] ( /- t -/ 125))
    have HST2 := hide (hst2.below hbA)
    have HP2 := hide (hp2.below hbA)
    have HB2 := hide (hb2.trans (hbA.mono hb2.size))
    clear hst2 hp2 hb2 hbA cc cf cl s0 s1 s2 sl z0 z1 z2 z3 fz hzl HST1 HP1 HB1
    refine (idx_calls _ dp un _ ps l i j HP2.out.ps HND.out HL.out HJ.out hlen (fun x hx => by obtain ⟨cs, h⟩ := HPB.out x hx; exact ⟨cs, h.below HB2.out⟩)).mono ?_
    rintro e w3 ⟨rfl, hb⟩
    have HST3 := hide (HST2.out.below hb)
    clear hb HST2 HP2 HB2
    obtain ⟨z0, z1, z2, z3⟩ := HST3.out.hz.cells
    have fz := HST3.out.hz.frozen
    have hzl := HST3.out.hz.lt
    go_wp2_with fail
    refine bodyPost_ret (v := .tuple #[.agg #[.int .i64 5, .string ⟨#[]⟩, .int .i64 i, .slice none 0 0], .bool true]) (by simp [results, Tryd.results102, go_sem, *]) rfl ?_
    exact UnSt.leaf HST3.out hcl (by omega) (by omega) _ _ _ _

end Go.Proofs.YtgcefippeokmcaaDoor.Lo

/- unlinkNode of the program: what stands in memory around a child's writing. -/
namespace Go.Proofs.YtgcefippeokmcaaDoor.Lo
open Go.RowKit

/-- What unlinkNode gives, in one form. -/
theorem CpPost.form {c : Nat} {N : Nd} {d : Int} {a : Nat} {w : World} {e : Ending} {w' : World} (h : CpPost c N d a w e w') :
    ∃ (k ix : Int) (fr : ByteArray) (ua : Option Addr) (ul uc : Nat) (ok : Bool) (a' : Nat), e = .returned (.tuple #[.agg #[.int .i64 k, .string fr, .int .i64 ix, .slice ua ul uc], .bool ok]) ∧ Only c w w' ∧ Ctr w' c a' ∧
      ((ok = true ∧ k = N.k ∧ fr = N.fr ∧ ix = N.ix ∧ a + (N.kids.sz + 1) ≤ 400 ∧ d + (hF N.kids : Int) ≤ 40 ∧ a' = a + (N.kids.sz + 1) ∧ ∃ bs, Ow w' (.slice ua ul uc) N.kids bs ∧ (∀ b, b ∈ bs → w.heap.size ≤ b) ∧ bs.Nodup) ∨
       (ok = false ∧ ¬ (a + (N.kids.sz + 1) ≤ 400 ∧ d + (hF N.kids : Int) ≤ 40))) := by
  obtain ⟨a', ho, hc, h⟩ := h
  rcases h with ⟨h1, h2, h3, u, bs, rfl, how, hge, hnd⟩ | ⟨h, rfl⟩
  · obtain ⟨ua, uc, rfl⟩ := how.val
    exact ⟨_, _, _, ua, _, uc, true, a', rfl, ho, hc, Or.inl ⟨rfl, rfl, rfl, rfl, h1, h2, h3, bs, how, hge, hnd⟩⟩
  · exact ⟨_, _, _, none, 0, 0, false, a', rfl, ho, hc, Or.inr ⟨rfl, h⟩⟩

theorem loop_blk {w0 : World} {fr : ByteArray} {ix : Int} {kids : F} {ps ks : List Nat} {L : Nat} (h : LkN w0 4 fr ix kids ps (.iface ( /- t -/ 121) (.pointer (some ⟨L, 0, none⟩))) ks) : ∃ cs, Blk w0 L cs := by
  rcases h with ⟨h, -⟩ | ⟨h, -⟩ | ⟨-, L', s, u, ks', h3, hb, -⟩ | ⟨h, -⟩
  · omega
  · omega
  · injection h3 with _ h3
    injection h3 with h3
    injection h3 with h3
    injection h3 with h3
    subst h3
    exact ⟨_, hb⟩
  · omega

/-- The scope is another one. -/
theorem UnSt.jump {w wd : World} {c a : Nat} {dp un : Int} {sv : Value} (h : UnSt w wd c a dp un sv) (hcl : c < w.heap.size) (un' : Int) (sv' : Value) :
    UnSt w (((wd.setCell ⟨w.heap.size, 0, none⟩ (.int .i64 dp)).setCell ⟨w.heap.size, 1, none⟩ sv').setCell ⟨w.heap.size, 2, none⟩ (.int .i64 un')).drew c a dp un' sv' := by
  have h1 : Blk (((wd.setCell ⟨w.heap.size, 0, none⟩ (.int .i64 dp)).setCell ⟨w.heap.size, 1, none⟩ sv').setCell ⟨w.heap.size, 2, none⟩ (.int .i64 un')) w.heap.size #[.int .i64 dp, sv', .int .i64 un'] := ((h.hs.set 0 _).set 1 _).set 2 _
  have hne : c ≠ w.heap.size := by omega
  exact ⟨h1, ((h.hz.setOther (by simp) _).setOther (by simp) _).setOther (by simp) _, ((h.hc.setOther hne _).setOther hne _).setOther hne _,
    (((h.ho.setCell (Or.inr (Nat.le_refl _)) _).setCell (Or.inr (Nat.le_refl _)) _).setCell (Or.inr (Nat.le_refl _)) _).drew⟩

/-- What a child's writing leaves: its box, its flag. -/
def KidRel (w w4 : World) (c a : Nat) (dp un : Int) (sv : Value) (N : Nd) (d : Int) (xv okv : Value) : Prop :=
  ∃ (X : Nat) (k ix : Int) (fr : ByteArray) (ua : Option Addr) (ul uc : Nat) (ok : Bool) (a' : Nat), xv = .pointer (some ⟨X, 0, none⟩) ∧ okv = .bool ok ∧ Box4 w4 X (.int .i64 k) (.string fr) (.int .i64 ix) (.slice ua ul uc) ∧ w.heap.size + 1 < X ∧ UnSt w w4 c a' dp un sv ∧
    ((ok = true ∧ k = N.k ∧ fr = N.fr ∧ ix = N.ix ∧ a + (N.kids.sz + 1) ≤ 400 ∧ d + (hF N.kids : Int) ≤ 40 ∧ a' = a + (N.kids.sz + 1) ∧ ∃ bs, Ow w4 (.slice ua ul uc) N.kids bs ∧ (∀ b, b ∈ bs → w.heap.size + 1 < b) ∧ bs.Nodup) ∨
     (ok = false ∧ ¬ (a + (N.kids.sz + 1) ≤ 400 ∧ d + (hF N.kids : Int) ≤ 40)))

theorem KidRel.mk {w0 w W3 wY w6 w4 : World} {c a1 a' X : Nat} {dp un : Int} {sv : Value} {N : Nd} {d : Int} (hst : UnSt w W3 c a1 dp un sv) (hcl : c < w.heap.size) (h0 : Below w0.heap.size w0 W3) (hc0 : w0.heap.size ≤ c) (h35 : Below W3.heap.size W3 wY) (ho6 : Only c wY w6) (hc6 : Ctr w6 c a')
    (hX : W3.heap.size ≤ X) (h64 : Only X w6 w4) {k ix : Int} {fr : ByteArray} {ua : Option Addr} {ul uc : Nat} {ok : Bool} (hbox : Box4 w4 X (.int .i64 k) (.string fr) (.int .i64 ix) (.slice ua ul uc)) (hXb : X < wY.heap.size ∨ w6.heap.size ≤ X)
    (hcase : (ok = true ∧ k = N.k ∧ fr = N.fr ∧ ix = N.ix ∧ a1 + (N.kids.sz + 1) ≤ 400 ∧ d + (hF N.kids : Int) ≤ 40 ∧ a' = a1 + (N.kids.sz + 1) ∧ ∃ bs, Ow w6 (.slice ua ul uc) N.kids bs ∧ (∀ b, b ∈ bs → wY.heap.size ≤ b) ∧ bs.Nodup) ∨
       (ok = false ∧ ¬ (a1 + (N.kids.sz + 1) ≤ 400 ∧ d + (hF N.kids : Int) ≤ 40))) : KidRel w w4 c a1 dp un sv N d (.pointer (some ⟨X, 0, none⟩)) (.bool ok) ∧ Below w0.heap.size w0 w4 := by
  have h1 := hst.hz.lt
  have h2 := h35.size
  have h3 := hst.below h35
  have h4 := h3.only hcl ho6 hc6
  have hne : ∀ b, b < W3.heap.size → b ≠ X := fun b hb e => by omega
  have hz4 := h4.hz.lt
  have h5 : UnSt w w4 c a' dp un sv := by
    refine ⟨h4.hs.same (h64.block _ (by omega) (hne _ (by omega))), h4.hz.same (h64.block _ (by omega) (hne _ (by omega))), h4.hc.same (h64.block _ h4.hc.lt (hne _ (by omega))), ?_⟩
    refine ⟨h64.os.trans h4.ho.os, h64.tape.trans h4.ho.tape, h64.output.trans h4.ho.output, Nat.le_trans h4.ho.size h64.size, fun b hb hc => ?_⟩
    exact (h64.block b (Nat.lt_of_lt_of_le hb h4.ho.size) (hne b (by omega))).trans (h4.ho.block b hb hc)
  have h6 := h0.size
  have h7 := ho6.size
  refine ⟨⟨X, k, ix, fr, ua, ul, uc, ok, a', rfl, rfl, hbox, by omega, h5, ?_⟩, ((h0.trans (h35.mono h6)).trans (ho6.to_below hc0 (by omega))).trans (h64.to_below (by omega) (by omega))⟩
  rcases hcase with ⟨q1, q2, q3, q4, q5, q6, q7, bs, how, hge, hnd⟩ | h
  · refine Or.inl ⟨q1, q2, q3, q4, q5, q6, q7, bs, how.same (fun b hb => h64.block b (how.lt b hb) ?_), fun b hb => by have := hge b hb; omega, hnd⟩
    have := hge b hb
    have := how.lt b hb
    omega
  · exact Or.inr h

theorem only_box (X : Nat) (w : World) (v0 v1 v2 v3 : Value) : Only X w ((((w.setCell ⟨X, 0, none⟩ v0).setCell ⟨X, 1, none⟩ v1).setCell ⟨X, 2, none⟩ v2).setCell ⟨X, 3, none⟩ v3) :=
  ((((Only.refl X w).setCell (p := ⟨X, 0, none⟩) (Or.inl rfl) v0).setCell (p := ⟨X, 1, none⟩) (Or.inl rfl) v1).setCell (p := ⟨X, 2, none⟩) (Or.inl rfl) v2).setCell (p := ⟨X, 3, none⟩) (Or.inl rfl) v3

/-- A row of one branch. -/
theorem one_row {w : World} {u : Value} {kids : F} {ks : List Nat} (how : Ow w u kids ks) {lab fr : ByteArray} {k ix : Int} (hl : lab.size ≤ maxLen) (hf : fr.size ≤ maxLen) (hk : (Lit.int .i64 k).wf = true) (hi : (Lit.int .i64 ix).wf = true) (t : TypeId) :
    Ow (w.alloc (.cells #[.string lab, .int .i64 k, .string fr, .int .i64 ix, u] t)) (.slice (some ⟨w.heap.size, 0, none⟩) 1 1) (.cons lab k fr ix kids .nil) (w.heap.size :: ks) := by
  have hal := alloc_last w #[.string lab, .int .i64 k, .string fr, .int .i64 ix, u] t
  have h2 := how.same (Same.of_below (alloc_below w (.cells #[.string lab, .int .i64 k, .string fr, .int .i64 ix, u] t)) how.lt)
  obtain ⟨ua, uc, rfl, e1, e2, hkk⟩ := h2
  refine ⟨some ⟨w.heap.size, 0, none⟩, 1, rfl, Nat.le_refl _, by unfold maxLen; omega, Or.inr ⟨w.heap.size, 5, ks, rfl, rfl, ⟨_, t, hal, rfl⟩, by simp, ?_⟩⟩
  exact ⟨hl, hf, hk, hi, cell_of_heap (o := 0) hal, cell_of_heap (o := 1) hal, cell_of_heap (o := 2) hal, cell_of_heap (o := 3) hal, ks, [], by simp, ⟨ua, uc, cell_of_heap (o := 4) hal, e1, e2, hkk⟩, rfl⟩

/-- How the walk comes to a recursion. -/
def AtLoop (w0 w : World) (L : Nat) (v lv lv' : Value) (un un' : Int) (m : Nat) (pv : Option Addr) (bb : Bool) : Prop :=
  (bb = false ∧ pv = none ∧ v = .iface ( /- t -/ 121) (.pointer (some ⟨L, 0, none⟩)) ∧ lv = lv' ∧ un = un') ∨
  (bb = true ∧ pv = some ⟨L, 0, none⟩ ∧ v = .iface ( /- t -/ 125) (.agg #[.pointer (some ⟨L, 0, none⟩)]) ∧ lv' = .slice none 0 0 ∧ un' = 0 ∧ m = 0 ∧ ∃ ps, Pt w lv ps ∧ L ∉ ps ∧ ps.length ≤ 41 ∧ ∀ x, x ∈ ps → ∃ cs, Blk w0 x cs)
end Go.Proofs.YtgcefippeokmcaaDoor.Lo
