/- LQs, LEn, LSm, LUy, LJa, LKt, LKe, LJb, LJd, LJc, LJm, LJr, LJe -/
import Derived.Test.YtfppglfajbmapaaDoorU10
import Derived.StillTailTactics
import Derived.Test.YtfppglfajbmapaaDoorU08
import Derived.Test.YtfppglfajbmapaaDoorU00
import Derived.Test.YtfppglfajbmapaaDoorU04
import Derived.Deep.LoopGhost
import Derived.Test.YtfppglfajbmapaaDoorProg
import Derived.Maps.Own
import Derived.Maps.OwnOps
import Derived.LaidEqlPtr
import Derived.Laws.StructEq
import Derived.ChangeKeysEq
import Derived.Deep.AppendLies
/- LocalEqual of the program. -/
namespace Go.Proofs.YtfppglfajbmapaaDoor.Lo
open Go.RowKit

set_option maxHeartbeats 800000 in
/-- LocalEqual of the program, at trees whose memory is the call's own. -/
theorem implSame (w : World) (k ix k' ix' : Int) (fr fr' : ByteArray) (u u' : Value) (f f' : F) (bs bs' : List Nat) (h : Ow w u f bs) (h' : Ow w u' f' bs') (hsz : f.sz ≤ 1048576) :
    Calls Tryd.prog 22 #[.agg #[.int .i64 k, .string fr, .int .i64 ix, u], .agg #[.int .i64 k', .string fr', .int .i64 ix', u']] w
      fun e w' => e = .returned (.bool (sameN k fr ix f k' fr' ix' f')) ∧ Below w.heap.size w w' := by
  obtain ⟨a, c, rfl⟩ := h.val
  obtain ⟨a', c', rfl⟩ := h'.val
  have hb0 := (alloc_below w (.cells #[.int .i64 k, .string fr, .int .i64 ix, .slice a f.len c] ( /- t -/ 35))).alloc (by simp) (.cells #[.int .i64 k', .string fr', .int .i64 ix', .slice a' f'.len c'] ( /- t -/ 35))
  have HU := hide (h.same (Same.of_below hb0 (fun b hb => h.lt b hb)))
  have HU' := hide (h'.same (Same.of_below hb0 (fun b hb => h'.lt b hb)))
  clear h h'
  go_enter Tryd.func22, Tryd.ntmps22
  go_wp2_with fail
  refine (same_walk _ k ix k' ix' fr fr' a a' c c' f f' ⟨⟨_, HU.out⟩, _, HU'.out⟩ hsz).mono ?_
  rintro e w1 ⟨rfl, hb⟩
  have hb2 := hb0.trans (hb.mono hb0.size)
  clear hb0 hb
  go_wp2_with fail
  go_ret
  exact ⟨rfl, hb2⟩
end Go.Proofs.YtfppglfajbmapaaDoor.Lo

/- What the walks of the drawn laws share: a tree in a box. -/
namespace Go.Proofs.YtfppglfajbmapaaDoor.Lo
open Go.RowKit

/-- A tree in a box, in memory of its own. -/
structure Nv (w : World) (b : Nat) (g : Nd) (u : Value) : Prop where
  box : Box4 w b (.int .i64 g.k) (.string g.fr) (.int .i64 g.ix) u
  own : ∃ bs, Ow w u g.kids bs
theorem Nv.sl {w : World} {b : Nat} {g : Nd} {u : Value} (h : Nv w b g u) : Sl w u g.kids := by
  obtain ⟨bs, h⟩ := h.own
  exact h.sl
theorem Nv.below {w w' : World} {b : Nat} {g : Nd} {u : Value} (h : Nv w b g u) (hb : Below w.heap.size w w') : Nv w' b g u := by
  obtain ⟨bs, h2⟩ := h.own
  exact ⟨h.box.below hb, bs, h2.same (Same.of_below hb h2.lt)⟩
theorem Nv.drew {w : World} {b : Nat} {g : Nd} {u : Value} (h : Nv w b g u) : Nv w.drew b g u := h.below (Below.refl _ _).drew
theorem Nv.lt {w : World} {b : Nat} {g : Nd} {u : Value} (h : Nv w b g u) : b < w.heap.size := h.box.lt
/-- A new box. -/
theorem Nv.now {w : World} {g : Nd} {u : Value} {bs : List Nat} (h : Ow w u g.kids bs) (t : TypeId) : Nv (w.alloc (.cells #[.int .i64 g.k, .string g.fr, .int .i64 g.ix, u] t)) w.heap.size g u :=
  ⟨Box4.now w _ _ _ _ t, bs, h.same (Same.of_below (alloc_below w _) h.lt)⟩
theorem sameF_refl : ∀ f : F, sameF f f = true
  | .nil => rfl
  | .cons lab k fr ix kids rest => by simp [sameF, headB, sameF_refl kids, sameF_refl rest]
theorem sameN_refl (g : Nd) : sameN g.k g.fr g.ix g.kids g.k g.fr g.ix g.kids = true := by
  unfold sameN
  rw [sameF_refl]
  simp [headB]
/-- Equality of a tree with itself. -/
theorem same_self (w : World) (g : Nd) (u u' : Value) (h : ∃ bs, Ow w u g.kids bs) (h' : ∃ bs, Ow w u' g.kids bs) (hsz : g.kids.sz ≤ 1048576) :
    Calls Tryd.prog 22 #[.agg #[.int .i64 g.k, .string g.fr, .int .i64 g.ix, u], .agg #[.int .i64 g.k, .string g.fr, .int .i64 g.ix, u']] w fun e w' => e = .returned (.bool true) ∧ Below w.heap.size w w' := by
  obtain ⟨bs, h⟩ := h
  obtain ⟨bs', h'⟩ := h'
  refine (implSame w g.k g.ix g.k g.ix g.fr g.fr u u' g.kids g.kids bs bs' h h' hsz).mono ?_
  rintro e w' ⟨rfl, hb⟩
  rw [sameN_refl]
  exact ⟨rfl, hb⟩
end Go.Proofs.YtfppglfajbmapaaDoor.Lo

/- How large the unfolding of a small tree may get, if it is not high: the recursions at the root are reached by jumps to ever outer ones, and each jump costs levels. -/
namespace Go.Proofs.YtfppglfajbmapaaDoor.Lo
open Go.RowKit

/-- Sums, from the front. -/
def sm : Nat → (Nat → Nat) → Nat
  | 0, _ => 0
  | n + 1, o => o 0 + sm n (fun v => o (v + 1))
theorem sm_le : ∀ (n : Nat) (a b : Nat → Nat), (∀ v, v < n → a v ≤ b v) → sm n a ≤ sm n b
  | 0, _, _, _ => Nat.le_refl _
  | n + 1, a, b, h => by
    have h0 := h 0 (by omega)
    have h1 := sm_le n (fun v => a (v + 1)) (fun v => b (v + 1)) (fun v hv => h (v + 1) (by omega))
    simp only [sm]
    omega
theorem sm_add : ∀ (n : Nat) (a b : Nat → Nat), sm n (fun v => a v + b v) = sm n a + sm n b
  | 0, _, _ => rfl
  | n + 1, a, b => by
    have h1 := sm_add n (fun v => a (v + 1)) (fun v => b (v + 1))
    simp only [sm]
    omega
theorem sm_zero : ∀ (n : Nat) (a : Nat → Nat), (∀ v, v < n → a v = 0) → sm n a = 0
  | 0, _, _ => rfl
  | n + 1, a, h => by
    have h0 := h 0 (by omega)
    have h1 := sm_zero n (fun v => a (v + 1)) (fun v hv => h (v + 1) (by omega))
    simp only [sm]
    omega
theorem sm_pick : ∀ (n v0 : Nat) (a : Nat → Nat), v0 < n → sm n (fun v => if v = v0 then a v else 0) = a v0
  | 0, v0, _, h => by omega
  | n + 1, 0, a, _ => by
    have h1 := sm_zero n (fun v => if v + 1 = 0 then a (v + 1) else 0) (fun v _ => if_neg (by omega))
    simp only [sm]
    rw [h1]
    simp
  | n + 1, v0 + 1, a, h => by
    have h1 := sm_pick n v0 (fun v => a (v + 1)) (by omega)
    simp only [sm]
    rw [if_neg (by omega), Nat.zero_add, ← h1]
    congr 1
    funext v
    by_cases hv : v = v0
    · rw [if_pos hv, if_pos (by omega)]
    · rw [if_neg hv, if_neg (by omega)]
theorem sm_mul (c : Nat) : ∀ (n : Nat) (a : Nat → Nat), sm n (fun v => c * a v) = c * sm n a
  | 0, _ => rfl
  | n + 1, a => by
    have h1 := sm_mul c n (fun v => a (v + 1))
    simp only [sm]
    rw [h1, Nat.mul_add]

/-- So many of n things. -/
def ch : Nat → Nat → Nat
  | _, 0 => 1
  | 0, _ + 1 => 0
  | n + 1, q + 1 => ch n (q + 1) + ch n q
theorem ch_zero (n : Nat) : ch n 0 = 1 := by cases n <;> rfl
theorem ch_mul : ∀ (n q : Nat), (q + 1) * ch n (q + 1) ≤ n * ch n q
  | 0, q => by simp [ch]
  | n + 1, 0 => by
    have h := ch_mul n 0
    rw [ch_zero] at h ⊢
    simp only [ch, ch_zero]
    omega
  | n + 1, q + 1 => by
    have h := ch_mul n (q + 1)
    have h2 := ch_mul n q
    simp only [ch]
    generalize ch n (q + 1 + 1) = x at h ⊢
    generalize ch n (q + 1) = y at h h2 ⊢
    generalize ch n q = z at h2 ⊢
    have e1 : (q + 1 + 1) * (x + y) = (q + 1 + 1) * x + (q + 1) * y + y := by
      rw [Nat.mul_add, Nat.add_mul (q + 1) 1 y]; omega
    have e2 : (n + 1) * (y + z) = n * y + y + (n * z + z) := by
      rw [Nat.mul_add, Nat.add_mul n 1 y, Nat.add_mul n 1 z]; omega
    rw [e1, e2]
    omega

/-- Fewer than r of n things. -/
def zz : Nat → Nat → Nat
  | 0, _ => 0
  | r + 1, n => zz r n + ch n r
theorem zz_at_zero : ∀ r, zz (r + 1) 0 = 1
  | 0 => rfl
  | r + 1 => by
    have := zz_at_zero r
    show zz (r + 1) 0 + ch 0 (r + 1) = 1
    rw [this]; rfl
theorem zz_pascal : ∀ (r n : Nat), zz (r + 1) (n + 1) = zz (r + 1) n + zz r n
  | 0, n => by
    show zz 0 (n + 1) + ch (n + 1) 0 = zz 0 n + ch n 0 + zz 0 n
    rw [ch_zero, ch_zero]; rfl
  | r + 1, n => by
    have := zz_pascal r n
    show zz (r + 1) (n + 1) + ch (n + 1) (r + 1) = zz (r + 1) n + ch n (r + 1) + (zz r n + ch n r)
    rw [this]
    simp only [ch]
    omega
theorem zz_mono1 (r n : Nat) : zz r n ≤ zz r (n + 1) := by
  cases r with
  | zero => exact Nat.le_refl _
  | succ r => rw [zz_pascal]; omega
theorem zz_mono (r n : Nat) : ∀ d, zz r n ≤ zz r (n + d)
  | 0 => Nat.le_refl _
  | d + 1 => Nat.le_trans (zz_mono r n d) (zz_mono1 r (n + d))
theorem zz_step (r n : Nat) : ∀ o, zz (r + 1) n + o * zz r n ≤ zz (r + 1) (o + n)
  | 0 => by simp
  | o + 1 => by
    have h := zz_step r n o
    have h2 := zz_mono r n o
    rw [show o + 1 + n = (o + n) + 1 by omega, zz_pascal, Nat.add_mul, Nat.add_comm o n]
    rw [Nat.add_comm o n] at h
    omega
theorem zz8 (n : Nat) (h : n ≤ 400) : zz 8 n ≤ 400000000000000 := by
  have hs : ∀ q, (q + 1) * ch n (q + 1) ≤ 400 * ch n q := fun q => Nat.le_trans (ch_mul n q) (Nat.mul_le_mul_right _ h)
  have h0 := ch_zero n
  have h1 := hs 0
  have h2 := hs 1
  have h3 := hs 2
  have h4 := hs 3
  have h5 := hs 4
  have h6 := hs 5
  have h7 := hs 6
  simp only [Nat.reduceAdd] at h1 h2 h3 h4 h5 h6 h7
  simp only [zz]
  omega

/-- The sum behind an index. -/
def tl : Nat → (Nat → Nat) → Nat → Nat
  | 0, _, _ => 0
  | n + 1, o, 0 => sm n (fun v => o (v + 1))
  | n + 1, o, v + 1 => tl n (fun v => o (v + 1)) v
theorem abel (r : Nat) : ∀ (n : Nat) (o : Nat → Nat), sm n (fun v => o v * zz r (tl n o v)) + 1 ≤ zz (r + 1) (sm n o)
  | 0, _ => by simp only [sm]; rw [zz_at_zero]; omega
  | n + 1, o => by
    have h := abel r n (fun v => o (v + 1))
    have h2 := zz_step r (sm n (fun v => o (v + 1))) (o 0)
    simp only [sm, tl]
    omega

/-- Levels for r jumps from below j recursions at the root. -/
def th : Nat → Nat → Nat
  | 0, j => j
  | r + 1, j => j + 1 + th r (j + 1)
theorem th_mono : ∀ (r j d : Nat), th r j ≤ th r (j + d)
  | 0, j, d => by simp only [th]; omega
  | r + 1, j, d => by
    have := th_mono r (j + 1) d
    simp only [th]
    rw [show j + d + 1 = j + 1 + d by omega]
    omega
theorem th8 (j : Nat) : 40 ≤ th 8 j := by
  simp only [th]
  omega

/-- The variables with index v. -/
def occ : F → Nat → Nat
  | .nil, _ => 0
  | .cons _ k _ ix kids rest, v => (if k = 5 then (if ix.toNat = v then 1 else 0) else if k = 4 then occ kids (v + 1) else occ kids v) + occ rest v
def occN (g : Nd) (v : Nat) : Nat := if g.k = 5 then (if g.ix.toNat = v then 1 else 0) else if g.k = 4 then occ g.kids (v + 1) else occ g.kids v
theorem sm_one (n v0 : Nat) (j : Nat) : sm n (fun v => if v0 = j + v then 1 else 0) ≤ 1 := by
  by_cases h : j ≤ v0 ∧ v0 - j < n
  · have := sm_pick n (v0 - j) (fun _ => 1) h.2
    refine Nat.le_trans (sm_le n _ (fun v => if v = v0 - j then 1 else 0) (fun v _ => ?_)) (Nat.le_of_eq this)
    show (if v0 = j + v then 1 else 0) ≤ (if v = v0 - j then 1 else 0)
    by_cases e : v0 = j + v
    · rw [if_pos e, if_pos (by omega)]
      exact Nat.le_refl _
    · rw [if_neg e]
      exact Nat.zero_le _
  · rw [sm_zero n _ (fun v hv => if_neg (by omega))]
    omega
theorem occ_sum : ∀ (f : F) (n j : Nat), sm n (fun v => occ f (j + v)) ≤ f.sz := by
  intro f
  induction f with
  | nil => intro n j; exact Nat.le_of_eq (sm_zero n _ (fun _ _ => rfl))
  | cons lab k fr ix kids rest ihk ihr =>
    intro n j
    have hr := ihr n j
    have hk := ihk n j
    have hk4 := ihk n (j + 1)
    simp only [occ]
    rw [sm_add]
    simp only [F.sz]
    by_cases h5 : k = 5
    · simp only [if_pos h5]
      have := sm_one n ix.toNat j
      omega
    · simp only [if_neg h5]
      by_cases h4 : k = 4
      · simp only [if_pos h4]
        have e : (fun v => occ kids (j + v + 1)) = fun v => occ kids (j + 1 + v) := by
          funext v; rw [show j + v + 1 = j + 1 + v by omega]
        rw [e]
        omega
      · simp only [if_neg h4]
        omega
theorem occN_sum (g : Nd) (n : Nat) : sm n (occN g) ≤ g.kids.sz + 1 := by
  have := occ_sum (.cons ⟨#[]⟩ g.k g.fr g.ix g.kids .nil) n 0
  simp only [occ, F.sz, Nat.zero_add, Nat.add_zero] at this
  exact this

/-- The size of what stands at an index. -/
def szO (s : List (Option Nd)) (v : Nat) : Nat := match (s[v]?).join with | some U => U.kids.sz | none => 0
/-- The size of a copy. -/
theorem cp_sz (s : List (Option Nd)) (hs : VaS s) : ∀ (f : F) (j : Nat) (u : Int), 0 ≤ u → wF f ((j + s.length : Nat) : Int) u = true →
    (cpF (kept j ++ s) f).sz ≤ f.sz + sm s.length (fun v => occ f (j + v) * szO s v) := by
  intro f
  induction f with
  | nil => intro j u _ _; simp only [cpF, F.sz]; omega
  | cons lab k fr ix kids rest ihk ihr =>
    intro j u hu h
    simp only [wF, Bool.and_eq_true] at h
    obtain ⟨⟨h1, h2⟩, h3⟩ := h
    have hr := ihr j u hu h3
    have hsum : ∀ x : Nat → Nat, sm s.length (fun v => (x v + occ rest (j + v)) * szO s v) = sm s.length (fun v => x v * szO s v) + sm s.length (fun v => occ rest (j + v) * szO s v) := by
      intro x
      rw [← sm_add]
      congr 1
      funext v
      rw [Nat.add_mul]
    rw [cpF_cons]
    simp only [occ, F.sz]
    rw [hsum]
    by_cases h5 : k = 5
    · subst h5
      have hn := shape_leaf h1 (by decide) (by decide)
      subst hn
      simp only [if_true, Bool.and_eq_true, decide_eq_true_eq] at h2 ⊢
      have hcp : (cpN (kept j ++ s) ⟨5, fr, ix, .nil⟩).kids.sz ≤ sm s.length (fun v => (if ix.toNat = j + v then 1 else 0) * szO s v) := by
        simp only [cpN, if_true]
        by_cases hlt : ix.toNat < j
        · rw [kept_get j _ hlt]
          simp only [cpF, F.sz]
          exact Nat.zero_le _
        · have hx : ((kept j ++ s)[ix.toNat]?).join = (s[ix.toNat - j]?).join := by
            unfold kept
            rw [List.getElem?_append_right (by simp; omega)]
            simp
          have hlen : ix.toNat - j < s.length := by omega
          have hp := sm_pick s.length (ix.toNat - j) (szO s) hlen
          have he : sm s.length (fun v => (if ix.toNat = j + v then 1 else 0) * szO s v) = szO s (ix.toNat - j) := by
            rw [← hp]
            congr 1
            funext v
            by_cases e : ix.toNat = j + v
            · rw [if_pos e, if_pos (by omega), Nat.one_mul]
            · rw [if_neg e, if_neg (by omega), Nat.zero_mul]
          rw [he, hx]
          obtain ⟨U, eU, _⟩ := hs.join hlen
          unfold szO
          rw [eU]
          exact Nat.le_refl _
      omega
    · simp only [if_neg h5] at h2 ⊢
      simp only [cpN, if_neg h5]
      by_cases h4 : k = 4
      · simp only [if_pos h4] at h2 ⊢
        have hk := ihk (j + 1) (u + 1) (by omega) (by rw [show ((j + 1 + s.length : Nat) : Int) = ((j + s.length : Nat) : Int) + 1 by omega]; exact h2)
        rw [kept_succ]
        have e : (fun v => occ kids (j + v + 1) * szO s v) = fun v => occ kids (j + 1 + v) * szO s v := by
          funext v; rw [show j + v + 1 = j + 1 + v by omega]
        rw [e]
        omega
      · simp only [if_neg h4] at h2 ⊢
        by_cases h23 : k = 2 ∨ k = 3
        · rw [if_pos h23] at h2
          have hk := ihk j 0 (by omega) h2
          omega
        · have hn := shape_leaf h1 h23 h4
          subst hn
          simp only [cpF, F.sz]
          omega
theorem cpN_sz (s : List (Option Nd)) (hs : VaS s) (g : Nd) (u : Int) (hu : 0 ≤ u) (h : wN g (s.length : Int) u = true) :
    (cpN s g).kids.sz ≤ g.kids.sz + sm s.length (fun v => occN g v * szO s v) := by
  obtain ⟨k, fr, ix, kids⟩ := g
  have h9 := cp_sz s hs (.cons ⟨#[]⟩ k fr ix kids .nil) 0 u hu (by simp only [wF, Bool.and_true, Nat.zero_add]; exact h)
  rw [cpF_cons] at h9
  simp only [kept, List.replicate_zero, List.nil_append, cpF, F.sz, occ, Nat.zero_add, Nat.add_zero] at h9
  have e : (fun v => (if k = 5 then (if ix.toNat = v then 1 else 0) else if k = 4 then occ kids (v + 1) else occ kids v) * szO s v) = fun v => occN ⟨k, fr, ix, kids⟩ v * szO s v := by
    funext v; rfl
  rw [e] at h9
  show (cpN s ⟨k, fr, ix, kids⟩).kids.sz ≤ kids.sz + sm s.length (fun v => occN ⟨k, fr, ix, kids⟩ v * szO s v)
  omega

/-- The recursions at the root. -/
def rk : F → Nat
  | .nil => 0
  | .cons _ k _ _ kids _ => if k = 4 then 1 + rk kids else 0
def rkN (g : Nd) : Nat := if g.k = 4 then 1 + rk g.kids else 0
/-- What stands for a variable lies in the copy. -/
theorem cp_in (s : List (Option Nd)) {v : Nat} {U : Nd} (hU : (s[v]?).join = some U) : ∀ (f : F) (j : Nat), 0 < occ f (j + v) → hN U ≤ hF (cpF (kept j ++ s) f) := by
  intro f
  induction f with
  | nil => intro j h; simp [occ] at h
  | cons lab k fr ix kids rest ihk ihr =>
    intro j h
    simp only [occ] at h
    rw [cpF_cons]
    simp only [hF]
    by_cases hr : 0 < occ rest (j + v)
    · have := ihr j hr
      omega
    · by_cases h5 : k = 5
      · rw [if_pos h5] at h
        by_cases e : ix.toNat = j + v
        · have hx : ((kept j ++ s)[ix.toNat]?).join = some U := by
            rw [e]
            unfold kept
            rw [List.getElem?_append_right (by simp)]
            simpa using hU
          simp only [cpN, if_pos h5]
          rw [hx]
          simp only [hN]
          omega
        · rw [if_neg e] at h
          omega
      · rw [if_neg h5] at h
        simp only [cpN, if_neg h5]
        by_cases h4 : k = 4
        · rw [if_pos h4] at h
          simp only [if_pos h4]
          rw [kept_succ]
          have := ihk (j + 1) (by rw [show j + 1 + v = j + v + 1 by omega]; omega)
          omega
        · rw [if_neg h4] at h
          simp only [if_neg h4]
          have := ihk j (by omega)
          omega
/-- .. below all recursions at the root and the action behind them. -/
theorem cp_deep (s : List (Option Nd)) {v : Nat} {U : Nd} (hU : (s[v]?).join = some U) : ∀ (f : F) (j : Nat) (b u : Int), f.len ≤ 1 → wF f b u = true → ((j : Int) + v < u) → 0 < occ f (j + v) → rk f + 1 + hN U ≤ hF (cpF (kept j ++ s) f) := by
  intro f
  induction f with
  | nil => intro j b u _ _ _ h; simp [occ] at h
  | cons lab k fr ix kids rest ihk _ =>
    intro j b u hlen hw hju h
    have hrn : rest = .nil := nil_of_len (by simp only [F.len] at hlen; omega)
    subst hrn
    simp only [wF, Bool.and_eq_true, Bool.and_true] at hw
    obtain ⟨h1, h2⟩ := hw
    simp only [occ, Nat.add_zero] at h
    rw [cpF_cons]
    simp only [hF, rk]
    by_cases h5 : k = 5
    · exfalso
      rw [if_pos h5] at h h2
      simp only [Bool.and_eq_true, decide_eq_true_eq] at h2
      by_cases e : ix.toNat = j + v
      · omega
      · rw [if_neg e] at h
        omega
    · rw [if_neg h5] at h h2
      simp only [cpN, if_neg h5]
      by_cases h4 : k = 4
      · rw [if_pos h4] at h h2
        simp only [if_pos h4]
        rw [kept_succ]
        have hl : kids.len ≤ 1 := by
          subst h4
          simp [shapeB] at h1
          omega
        have := ihk (j + 1) (b + 1) (u + 1) hl h2 (by omega) (by rw [show j + 1 + v = j + v + 1 by omega]; omega)
        omega
      · rw [if_neg h4] at h
        simp only [if_neg h4]
        have := cp_in s hU kids j (by omega)
        omega
theorem rec_ne {fr : ByteArray} {ix : Int} {kids : F} (h : shapeB 4 fr ix kids = true) : kids ≠ .nil := by
  rintro rfl
  simp [shapeB, F.len] at h
theorem rk_h : ∀ (f : F) (b u : Int) (s : List (Option Nd)), wF f b u = true → f ≠ .nil → rk f + 1 ≤ hF (cpF s f) := by
  intro f
  induction f with
  | nil => intro b u s _ h; exact absurd rfl h
  | cons lab k fr ix kids rest ihk _ =>
    intro b u s hw _
    simp only [wF, Bool.and_eq_true] at hw
    obtain ⟨⟨h1, h2⟩, -⟩ := hw
    rw [cpF_cons]
    simp only [rk, hF]
    by_cases h4 : k = 4
    · have h5 : ¬ k = 5 := by omega
      rw [if_neg h5, if_pos h4] at h2
      have hne : kids ≠ .nil := by
        rw [h4] at h1
        exact rec_ne h1
      simp only [if_pos h4, cpN, if_neg h5]
      have := ihk (b + 1) (u + 1) (none :: s) h2 hne
      omega
    · rw [if_neg h4]; omega
theorem rkN_h (g : Nd) (b u : Int) (s : List (Option Nd)) (hw : wN g b u = true) : rkN g + 1 ≤ hN (cpN s g) := by
  obtain ⟨k, fr, ix, kids⟩ := g
  have h9 := rk_h (.cons ⟨#[]⟩ k fr ix kids .nil) b u s (by simp only [wF, Bool.and_true]; exact hw) (by simp)
  rw [cpF_cons] at h9
  simp only [cpF, hF, rk, Nat.max_zero] at h9
  show (if k = 4 then 1 + rk kids else 0) + 1 ≤ 1 + hF (cpN s ⟨k, fr, ix, kids⟩).kids
  omega
theorem cpN_deep (s : List (Option Nd)) {v : Nat} {U : Nd} (hU : (s[v]?).join = some U) (g : Nd) (b u : Int) (hw : wN g b u = true) (hv : (v : Int) < u) (h : 0 < occN g v) : rkN g + 1 + hN U ≤ hN (cpN s g) := by
  obtain ⟨k, fr, ix, kids⟩ := g
  have h9 := cp_deep s hU (.cons ⟨#[]⟩ k fr ix kids .nil) 0 b u (by simp [F.len]) (by simp only [wF, Bool.and_true]; exact hw) (by omega) (by simp only [occ, Nat.zero_add, Nat.add_zero]; exact h)
  rw [cpF_cons] at h9
  simp only [kept, List.replicate_zero, List.nil_append, cpF, hF, rk, Nat.max_zero] at h9
  show (if k = 4 then 1 + rk kids else 0) + 1 + hN U ≤ 1 + hF (cpN s ⟨k, fr, ix, kids⟩).kids
  omega

/-- What is known of the nodes of the environment. -/
def SzInv (s : List (Option Nd)) (g : Nd) : Prop :=
  ∀ v U, (s[v]?).join = some U → ∀ r, hN U ≤ th r (rkN g + 1 + v) → U.kids.sz + 1 ≤ 400 * zz r (tl s.length (occN g) v)

theorem szv_node {s : List (Option Nd)} {g : Nd} (hs : VaS s) (hi : SzInv s g) (hw : wN g (s.length : Int) (s.length : Int) = true) (hg : g.kids.sz + 1 ≤ 400) :
    ∀ r, hN (cpN s g) ≤ th r (rkN g) → (cpN s g).kids.sz + 1 ≤ 400 * zz r (sm s.length (occN g)) := by
  intro r hr
  cases r with
  | zero =>
    have := rkN_h g _ _ s hw
    simp only [th] at hr
    omega
  | succ r =>
    have h1 := cpN_sz s hs g _ (by omega) hw
    have h2 : sm s.length (fun v => occN g v * szO s v) ≤ sm s.length (fun v => 400 * (occN g v * zz r (tl s.length (occN g) v))) := by
      refine sm_le _ _ _ (fun v hv => ?_)
      by_cases ho : 0 < occN g v
      · obtain ⟨U, eU, _⟩ := hs.join hv
        have hd := cpN_deep s eU g _ _ hw (by omega) ho
        simp only [th] at hr
        have hm := th_mono r (rkN g + 1) v
        have := hi v U eU r (by omega)
        have e : szO s v = U.kids.sz := by unfold szO; rw [eU]
        rw [e, Nat.mul_left_comm]
        exact Nat.mul_le_mul_left _ (by omega)
      · rw [show occN g v = 0 by omega]
        simp
    rw [sm_mul 400] at h2
    have h3 := abel r s.length (occN g)
    have h4 : 400 * (sm s.length (fun v => occN g v * zz r (tl s.length (occN g) v)) + 1) ≤ 400 * zz (r + 1) (sm s.length (occN g)) := Nat.mul_le_mul_left _ h3
    omega

theorem szv_step {s : List (Option Nd)} {g : Nd} (hs : VaS s) (hi : SzInv s g) (hw : wN g (s.length : Int) (s.length : Int) = true) (hg : g.kids.sz + 1 ≤ 400) (h4 : g.k = 4)
    {lab fr : ByteArray} {k ix : Int} {kids : F} (hk : g.kids = .cons lab k fr ix kids .nil) : SzInv (some (cpN s g) :: s) ⟨k, fr, ix, kids⟩ := by
  have hocc : ∀ v, occN ⟨k, fr, ix, kids⟩ (v + 1) = occN g v := by
    intro v
    unfold occN
    rw [if_neg (show ¬ g.k = 5 by omega), if_pos h4, hk]
    simp only [occ, Nat.add_zero]
  have hrk : rkN g = 1 + rkN ⟨k, fr, ix, kids⟩ := by
    unfold rkN
    rw [if_pos h4, hk]
    simp only [rk]
  have hfun : (fun v => occN ⟨k, fr, ix, kids⟩ (v + 1)) = occN g := funext hocc
  intro v U hU r hr
  cases v with
  | zero =>
    have e : cpN s g = U := by simpa using hU
    subst e
    have := szv_node hs hi hw hg r (by rw [hrk, Nat.add_comm]; exact hr)
    simp only [List.length_cons, tl]
    rw [hfun]
    exact this
  | succ v =>
    have hU' : (s[v]?).join = some U := by simpa using hU
    have := hi v U hU' r (by rw [hrk]; rw [show 1 + rkN ⟨k, fr, ix, kids⟩ + 1 + v = rkN ⟨k, fr, ix, kids⟩ + 1 + (v + 1) by omega]; exact hr)
    simp only [List.length_cons, tl]
    rw [hfun]
    exact this

theorem unfN_sz : ∀ (n : Nat) (s : List (Option Nd)) (g : Nd), VaS s → SzInv s g → wN g (s.length : Int) (s.length : Int) = true → g.kids.sz + 1 ≤ 400 →
    hN (unfN n s g) ≤ 40 → (unfN n s g).kids.sz + 1 ≤ 160000000000000000 := by
  have key : ∀ (s : List (Option Nd)) (g : Nd), VaS s → SzInv s g → wN g (s.length : Int) (s.length : Int) = true → g.kids.sz + 1 ≤ 400 →
      hN (cpN s g) ≤ 40 → (cpN s g).kids.sz + 1 ≤ 160000000000000000 := by
    intro s g hs hi hw hg hh
    have h1 := szv_node hs hi hw hg 8 (Nat.le_trans hh (th8 _))
    have h2 := occN_sum g s.length
    have h3 := zz8 (sm s.length (occN g)) (by omega)
    omega
  intro n
  induction n with
  | zero => intro s g hs hi hw hg hh; exact key s g hs hi hw hg hh
  | succ n ih =>
    intro s g hs hi hw hg hh
    unfold unfN at hh ⊢
    by_cases h3 : g.k = 4
    · rw [if_pos h3] at hh ⊢
      cases hk : g.kids with
      | nil => rw [hk] at hh; exact key s g hs hi hw hg hh
      | cons lab k fr ix kids rest =>
        rw [hk] at hh
        simp only at hh ⊢
        have hw0 := hw
        unfold wN at hw
        simp only [Bool.and_eq_true] at hw
        have hrn : rest = .nil := by
          have h1 := hw.1
          rw [h3, hk] at h1
          simp [shapeB, F.len] at h1
          exact nil_of_len (by omega)
        subst hrn
        refine ih _ _ ?_ (szv_step hs hi hw0 hg h3 hk) ?_ ?_ hh
        · intro x hx
          rcases List.mem_cons.1 hx with rfl | hx
          · exact ⟨_, rfl, cpN_w s hs g (wN_u _ _ _ _ hw0 (by omega))⟩
          · exact hs x hx
        · have h2 := hw.2
          rw [if_neg (by omega), if_pos h3, hk] at h2
          simp only [wF, Bool.and_eq_true] at h2
          unfold wN
          simp only [Bool.and_eq_true]
          rw [show (((some (cpN s g) :: s).length : Nat) : Int) = (s.length : Int) + 1 by simp]
          exact h2.1
        · rw [hk] at hg
          simp only [F.sz] at hg
          show kids.sz + 1 ≤ 400
          omega
    · rw [if_neg h3] at hh ⊢
      exact key s g hs hi hw hg hh
theorem unf_sz (g : Nd) (hw : wN g 0 0 = true) (hg : g.kids.sz + 1 ≤ 400) (hh : hN (unf g) ≤ 40) : (unf g).kids.sz + 1 ≤ 160000000000000000 := by
  refine unfN_sz _ [] g (fun x hx => by simp at hx) (fun v U hU => by simp at hU) (by simpa using hw) hg hh
end Go.Proofs.YtfppglfajbmapaaDoor.Lo

/- What unfolding a local type gives. -/
namespace Go.Proofs.YtfppglfajbmapaaDoor.Lo
open Go.RowKit

def okG (g : Nd) : Bool := okN g.k g.fr g.ix g.kids
theorem okG_w {g : Nd} (h : okG g = true) : wN g 0 0 = true ∧ hN g ≤ 40 ∧ g.kids.sz + 1 ≤ 400 := by
  unfold okG okN at h
  rw [vldN_w g 0 0 40 (by omega) (by omega)] at h
  simp only [Bool.and_eq_true, decide_eq_true_eq] at h
  exact ⟨h.1.1, by omega, h.2⟩
theorem okG_of_w {g : Nd} (h : wN g 0 0 = true) : okG g = (decide (hN g ≤ 40) && decide (g.kids.sz + 1 ≤ 400)) := by
  unfold okG okN
  rw [vldN_w g 0 0 40 (by omega) (by omega), h, Bool.true_and]
  congr 1
  apply decide_eq_decide.2
  omega

theorem unf_bound {g : Nd} (hw : wN g 0 0 = true) (hsz : g.kids.sz + 1 ≤ 400) (hv : vldN (unf g).k (unf g).fr (unf g).ix (unf g).kids 0 0 40 = true) : (unf g).kids.sz ≤ 160000000000000000 := by
  rw [vldN_w (unf g) 0 0 40 (by omega) (by omega)] at hv
  simp only [Bool.and_eq_true, decide_eq_true_eq] at hv
  have := unf_sz g hw hsz (by omega)
  omega

def zeroNd : Nd := ⟨0, ⟨#[]⟩, 0, .nil⟩
/-- Whether the unfolding is valid. -/
def unfOk (g : Nd) : Bool := okG g && okG (unf g)
/-- What UnfoldLocal gives. -/
def unfR (g : Nd) : Nd := if unfOk g then unf g else zeroNd
/-- A node in new memory, and a flag. -/
def MadeR (R : Nd) (ok : Bool) (w : World) (e : Ending) (w' : World) : Prop :=
  ∃ u bs, e = .returned (.tuple #[.agg #[.int .i64 R.k, .string R.fr, .int .i64 R.ix, u], .bool ok]) ∧ Ow w' u R.kids bs ∧ (∀ b, b ∈ bs → w.heap.size ≤ b) ∧ bs.Nodup ∧ Below w.heap.size w w'

theorem MadeR.zero {w w' : World} (h : Below w.heap.size w w') : MadeR zeroNd false w (.returned (.tuple #[.agg #[.int .i64 0, .string ⟨#[]⟩, .int .i64 0, .slice none 0 0], .bool false])) w' :=
  ⟨_, [], rfl, ⟨none, 0, rfl, Nat.le_refl _, Nat.zero_le _, Or.inl ⟨rfl, rfl⟩⟩, fun _ h => absurd h (List.not_mem_nil), List.nodup_nil, h⟩
end Go.Proofs.YtfppglfajbmapaaDoor.Lo

/- Closed local types compared step by step: a recursion unfolded once, what two roots allow, the comparison to any depth. -/
namespace Go.Proofs.YtfppglfajbmapaaDoor.Lo
open Go.RowKit

/-- A recursion at the root, unfolded once. -/
def once (T : Nd) : Nd :=
  match T.kids with
  | .cons _ k fr ix kids _ => subN T ⟨k, fr, ix, kids⟩ 0
  | .nil => T
/-- At most n recursions at the root unfolded, one after the other. -/
def iter : Nat → Nd → Nd
  | 0, T => T
  | n + 1, T => if T.k = 4 then iter n (once T) else T

theorem iter_stop {T : Nd} (h : T.k ≠ 4) : ∀ n, iter n T = T
  | 0 => rfl
  | n + 1 => by unfold iter; rw [if_neg h]

theorem iter_one : ∀ (n m : Nat) (T : Nd), (iter n T).k ≠ 4 → (iter m T).k ≠ 4 → iter n T = iter m T
  | 0, m, T, h, _ => (iter_stop h m).symm
  | n + 1, 0, T, _, h => iter_stop h (n + 1)
  | n + 1, m + 1, T, h1, h2 => by
    unfold iter at *
    by_cases h4 : T.k = 4
    · rw [if_pos h4] at *
      rw [if_pos h4] at *
      exact iter_one n m _ h1 h2
    · rw [if_neg h4, if_neg h4]

theorem nd_ext {a b : Nd} (h1 : a.k = b.k) (h2 : a.fr = b.fr) (h3 : a.ix = b.ix) (h4 : a.kids = b.kids) : a = b := by
  cases a
  cases b
  simp only at h1 h2 h3 h4
  subst h1 h2 h3 h4
  rfl

theorem once_cp {s : List (Option Nd)} {N : Nd} (hs : VaS s) (h4 : N.k = 4) {lab : ByteArray} {k : Int} {fr : ByteArray} {ix : Int} {kids : F} (hk : N.kids = .cons lab k fr ix kids .nil) (hw : wN N (s.length : Int) 0 = true) :
    once (cpN s N) = cpN (some (cpN s N) :: s) ⟨k, fr, ix, kids⟩ := by
  have h5 : N.k ≠ 5 := by omega
  have e : (cpN s N).kids = .cons lab (cpN (none :: s) ⟨k, fr, ix, kids⟩).k (cpN (none :: s) ⟨k, fr, ix, kids⟩).fr (cpN (none :: s) ⟨k, fr, ix, kids⟩).ix (cpN (none :: s) ⟨k, fr, ix, kids⟩).kids .nil := by
    rw [cpN_k h5]
    simp only [if_pos h4, hk]
    rw [cpF_cons]
    simp [cpF]
  obtain ⟨_, _, _, _, _, e2, hw2⟩ := rec_kid hw h4
  rw [hk] at e2
  injection e2 with _ e3 e4 e5 e6 _
  subst e3 e4 e5 e6
  have := sub_cpN (cpN s N) s hs.cl ⟨k, fr, ix, kids⟩ ((s.length : Int) + 1) (scN_of_w _ _ _ (by omega) hw2)
  unfold once
  rw [e]
  exact this

theorem iter_unf : ∀ (n : Nat) (s : List (Option Nd)) (N : Nd), VaS s → wN N (s.length : Int) (s.length : Int) = true → iter n (cpN s N) = unfN n s N
  | 0, s, N, _, _ => rfl
  | n + 1, s, N, hs, hw => by
    have h5 := not_var hw
    have hw0 := wN_u _ _ _ 0 hw (by omega)
    have hk : (cpN s N).k = N.k := by rw [cpN_k h5]
    unfold iter unfN
    rw [hk]
    by_cases h4 : N.k = 4
    · obtain ⟨lab, k, fr, ix, kids, e, hw2⟩ := rec_kid hw h4
      rw [if_pos h4, if_pos h4, e]
      simp only
      rw [once_cp hs h4 e hw0]
      refine iter_unf n _ _ ?_ ?_
      · intro x hx
        rcases List.mem_cons.1 hx with rfl | hx
        · exact ⟨_, rfl, cpN_w s hs N hw0⟩
        · exact hs x hx
      · rw [show (((some (cpN s N) :: s).length : Nat) : Int) = (s.length : Int) + 1 by simp]
        exact hw2
    · rw [if_neg h4, if_neg h4]

theorem va_nil : VaS [] := fun x hx => by simp at hx
theorem unf_iter {g : Nd} (hw : wN g 0 0 = true) : unf g = iter (g.kids.sz + 1) g := by
  have h := iter_unf (g.kids.sz + 1) [] g va_nil hw
  rw [cpN_nil] at h
  exact h.symm

theorem unfN_kk : ∀ (n : Nat) (s : List (Option Nd)) (N : Nd), wN N (s.length : Int) (s.length : Int) = true → N.kids.sz < n → (unfN n s N).k ≠ 4
  | 0, s, N, _, h => by omega
  | n + 1, s, N, hw, hn => by
    have h5 := not_var hw
    unfold unfN
    by_cases h4 : N.k = 4
    · obtain ⟨lab, k, fr, ix, kids, e, hw2⟩ := rec_kid hw h4
      rw [if_pos h4, e]
      simp only
      refine unfN_kk n _ _ ?_ ?_
      · rw [show (((some (cpN s N) :: s).length : Nat) : Int) = (s.length : Int) + 1 by simp]
        exact hw2
      · rw [e] at hn
        simp only [F.sz] at hn ⊢
        omega
    · rw [if_neg h4, cpN_k h5]
      exact h4
theorem unf_k {g : Nd} (hw : wN g 0 0 = true) : (unf g).k ≠ 4 := unfN_kk _ [] g hw (Nat.lt_succ_self _)
theorem unf_w {g : Nd} (hw : wN g 0 0 = true) : wN (unf g) 0 0 = true := unfN_w _ [] g va_nil hw

theorem once_w {T : Nd} (hw : wN T 0 0 = true) (h4 : T.k = 4) : wN (once T) 0 0 = true := by
  obtain ⟨lab, k, fr, ix, kids, e, hw2⟩ := rec_kid hw h4
  have h := once_cp (s := []) va_nil h4 e hw
  rw [cpN_nil] at h
  rw [h]
  have hv : VaS [some T] := fun x hx => by
    simp at hx
    exact ⟨T, hx, hw⟩
  exact cpN_w [some T] hv _ (wN_u _ _ _ 0 hw2 (by omega))

theorem unf_rec {T : Nd} (hw : wN T 0 0 = true) (h4 : T.k = 4) : unf T = unf (once T) := by
  have ho := once_w hw h4
  have h1 := unf_iter hw
  have h2 := unf_iter ho
  have k1 := unf_k hw
  have k2 := unf_k ho
  have e : iter (T.kids.sz + 1) T = iter T.kids.sz (once T) := by
    conv => lhs; unfold iter
    rw [if_pos h4]
  rw [h1, e, h2]
  rw [h1, e] at k1
  rw [h2] at k2
  exact iter_one _ _ _ k1 k2
theorem unf_stop {T : Nd} (hw : wN T 0 0 = true) (h4 : T.k ≠ 4) : unf T = T := by
  rw [unf_iter hw]
  exact iter_stop h4 _
theorem unf_twice {T : Nd} (hw : wN T 0 0 = true) : unf (unf T) = unf T := unf_stop (unf_w hw) (unf_k hw)

/-! ### What two roots allow -/

/-- The node behind a label. -/
def brF : F → List UInt8 → Option Nd
  | .nil, _ => none
  | .cons lab k fr ix kids rest, l => if lab.toList = l then some ⟨k, fr, ix, kids⟩ else brF rest l
/-- Every label of the one list is a label of the other. -/
def subsF : F → F → Bool
  | .nil, _ => true
  | .cons lab _ _ _ _ rest, g => (brF g lab.toList).isSome && subsF rest g
theorem subsF_iff : ∀ (f g : F), subsF f g = true ↔ ∀ l, (brF f l).isSome = true → (brF g l).isSome = true
  | .nil, g => by simp [subsF, brF]
  | .cons lab k fr ix kids rest, g => by
    simp only [subsF, Bool.and_eq_true, subsF_iff rest g, brF]
    constructor
    · rintro ⟨h1, h2⟩ l hl
      by_cases e : lab.toList = l
      · rw [← e]; exact h1
      · rw [if_neg e] at hl
        exact h2 l hl
    · intro h
      refine ⟨h _ (by rw [if_pos rfl]; rfl), fun l hl => h l ?_⟩
      by_cases e : lab.toList = l
      · rw [if_pos e]; rfl
      · rw [if_neg e]; exact hl

/-- Whether two unfolded roots fit: the same action, and the labels as the comparison asks. -/
def fitB (sub : Bool) (x y : Nd) : Bool :=
  (x.k == y.k) && ((x.fr.toList == y.fr.toList) && (if sub = true then (if x.k = 2 then subsF x.kids y.kids else subsF y.kids x.kids) else subsF x.kids y.kids && subsF y.kids x.kids))
/-- The comparison to the depth n. -/
def Sim (sub : Bool) : Nat → Nd → Nd → Prop
  | 0, _, _ => True
  | n + 1, a, b => fitB sub (unf a) (unf b) = true ∧ ∀ l u v, brF (unf a).kids l = some u → brF (unf b).kids l = some v → Sim sub n u v
def Like (sub : Bool) (a b : Nd) : Prop := ∀ n, Sim sub n a b
open Classical in
/-- Two closed valid types compared. -/
noncomputable def alikeB (sub : Bool) (a b : Nd) : Bool := decide (Like sub a b)
noncomputable def cmpB (sub : Bool) (a b : Nd) : Bool := okG a && (okG b && alikeB sub a b)
theorem alikeB_iff (sub : Bool) (a b : Nd) : alikeB sub a b = true ↔ Like sub a b := by simp [alikeB]

theorem subsF_refl (f : F) : subsF f f = true := (subsF_iff f f).2 fun _ h => h
theorem subsF_trans {f g h : F} (h1 : subsF f g = true) (h2 : subsF g h = true) : subsF f h = true :=
  (subsF_iff f h).2 fun l hl => (subsF_iff g h).1 h2 l ((subsF_iff f g).1 h1 l hl)
theorem fitB_refl (sub : Bool) (x : Nd) : fitB sub x x = true := by
  unfold fitB
  simp [subsF_refl]
theorem Sim.refl (sub : Bool) : ∀ (n : Nat) (a : Nd), Sim sub n a a
  | 0, _ => trivial
  | n + 1, a => ⟨fitB_refl sub _, fun l u v h1 h2 => by rw [h1] at h2; cases h2; exact Sim.refl sub n u⟩
theorem Like.refl (sub : Bool) (a : Nd) : Like sub a a := fun n => Sim.refl sub n a

theorem fitB_iff (sub : Bool) (x y : Nd) : fitB sub x y = true ↔ x.k = y.k ∧ x.fr.toList = y.fr.toList ∧ (if sub = true then (if x.k = 2 then subsF x.kids y.kids else subsF y.kids x.kids) else subsF x.kids y.kids && subsF y.kids x.kids) = true := by
  unfold fitB
  simp only [Bool.and_eq_true, beq_iff_eq]

theorem Sim.trans : ∀ (n : Nat) (a b c : Nd), Sim true n a b → Sim true n b c → Sim true n a c
  | 0, _, _, _, _, _ => trivial
  | n + 1, a, b, c, h1, h2 => by
    obtain ⟨f1, r1⟩ := h1
    obtain ⟨f2, r2⟩ := h2
    rw [fitB_iff] at f1 f2
    obtain ⟨k1, p1, s1⟩ := f1
    obtain ⟨k2, p2, s2⟩ := f2
    simp only [if_true] at s1 s2
    refine ⟨?_, fun l u v hu hv => ?_⟩
    · rw [fitB_iff]
      refine ⟨k1.trans k2, p1.trans p2, ?_⟩
      simp only [if_true]
      rw [← k1] at s2
      by_cases h : (unf a).k = 2
      · rw [if_pos h] at s1 s2 ⊢
        exact subsF_trans s1 s2
      · rw [if_neg h] at s1 s2 ⊢
        exact subsF_trans s2 s1
    · have hm : ∃ w, brF (unf b).kids l = some w := by
        rw [← k1] at s2
        by_cases h : (unf a).k = 2
        · rw [if_pos h] at s1
          have := (subsF_iff _ _).1 s1 l (by rw [hu]; rfl)
          exact Option.isSome_iff_exists.1 this
        · rw [if_neg h] at s2
          have := (subsF_iff _ _).1 s2 l (by rw [hv]; rfl)
          exact Option.isSome_iff_exists.1 this
      obtain ⟨m, hm⟩ := hm
      exact Sim.trans n u m v (r1 l u m hu hm) (r2 l m v hm hv)
theorem Like.trans {a b c : Nd} (h1 : Like true a b) (h2 : Like true b c) : Like true a c := fun n => Sim.trans n a b c (h1 n) (h2 n)

theorem Sim.symm : ∀ (n : Nat) (a b : Nd), Sim false n a b → Sim false n b a
  | 0, _, _, _ => trivial
  | n + 1, a, b, h => by
    obtain ⟨f1, r1⟩ := h
    rw [fitB_iff] at f1
    obtain ⟨k1, p1, s1⟩ := f1
    refine ⟨(fitB_iff _ _ _).2 ⟨k1.symm, p1.symm, ?_⟩, fun l u v hu hv => Sim.symm n v u (r1 l v u hv hu)⟩
    simp only [Bool.false_eq_true, if_false, Bool.and_eq_true] at s1 ⊢
    exact ⟨s1.2, s1.1⟩
theorem Like.symm {a b : Nd} (h : Like false a b) : Like false b a := fun n => Sim.symm n a b (h n)

theorem Sim.both : ∀ (n : Nat) (a b : Nd), Sim false n a b ↔ Sim true n a b ∧ Sim true n b a
  | 0, _, _ => by simp [Sim]
  | n + 1, a, b => by
    constructor
    · rintro ⟨f1, r1⟩
      rw [fitB_iff] at f1
      obtain ⟨k1, p1, s1⟩ := f1
      simp only [Bool.false_eq_true, if_false, Bool.and_eq_true] at s1
      refine ⟨⟨(fitB_iff _ _ _).2 ⟨k1, p1, ?_⟩, fun l u v hu hv => ((Sim.both n u v).1 (r1 l u v hu hv)).1⟩, ⟨(fitB_iff _ _ _).2 ⟨k1.symm, p1.symm, ?_⟩, fun l u v hu hv => ((Sim.both n v u).1 (r1 l v u hv hu)).2⟩⟩
      · simp only [if_true]
        split
        · exact s1.1
        · exact s1.2
      · simp only [if_true]
        split
        · exact s1.2
        · exact s1.1
    · rintro ⟨⟨f1, r1⟩, ⟨f2, r2⟩⟩
      rw [fitB_iff] at f1 f2
      obtain ⟨k1, p1, s1⟩ := f1
      obtain ⟨k2, p2, s2⟩ := f2
      simp only [if_true] at s1 s2
      refine ⟨(fitB_iff _ _ _).2 ⟨k1, p1, ?_⟩, fun l u v hu hv => (Sim.both n u v).2 ⟨r1 l u v hu hv, r2 l v u hv hu⟩⟩
      simp only [Bool.false_eq_true, if_false, Bool.and_eq_true]
      rw [k2] at s2
      by_cases h : (unf a).k = 2
      · rw [if_pos h] at s1 s2
        exact ⟨s1, s2⟩
      · rw [if_neg h] at s1 s2
        exact ⟨s2, s1⟩
theorem Like.both {a b : Nd} : Like false a b ↔ Like true a b ∧ Like true b a :=
  ⟨fun h => ⟨fun n => ((Sim.both n a b).1 (h n)).1, fun n => ((Sim.both n a b).1 (h n)).2⟩, fun h n => (Sim.both n a b).2 ⟨h.1 n, h.2 n⟩⟩

/-- Only the unfolded roots count. -/
theorem Sim.unf {sub : Bool} {a b c d : Nd} (h1 : Lo.unf a = Lo.unf c) (h2 : Lo.unf b = Lo.unf d) : ∀ n, Sim sub n a b → Sim sub n c d
  | 0, _ => trivial
  | n + 1, h => by
    unfold Sim at h ⊢
    rw [← h1, ← h2]
    exact h
theorem Like.unf {sub : Bool} {a b c d : Nd} (h1 : Lo.unf a = Lo.unf c) (h2 : Lo.unf b = Lo.unf d) (h : Like sub a b) : Like sub c d := fun n => Sim.unf h1 h2 n (h n)
/-- A pair is alike just if its roots fit and what follows each label of both is alike. -/
theorem Like.step {sub : Bool} {a b : Nd} : Like sub a b ↔ fitB sub (Lo.unf a) (Lo.unf b) = true ∧ ∀ l u v, brF (Lo.unf a).kids l = some u → brF (Lo.unf b).kids l = some v → Like sub u v :=
  ⟨fun h => ⟨(h 1).1, fun l u v hu hv n => (h (n + 1)).2 l u v hu hv⟩, fun h n => by
    cases n with
    | zero => trivial
    | succ n => exact ⟨h.1, fun l u v hu hv => h.2 l u v hu hv n⟩⟩

/-- What stands behind a label of a valid action is valid and closed. -/
theorem brF_w : ∀ (f : F) (b u : Int) (l : List UInt8) (g : Nd), wF f b u = true → brF f l = some g → wN g b u = true
  | .nil, _, _, _, _, _, h => by simp [brF] at h
  | .cons lab k fr ix kids rest, b, u, l, g, hw, h => by
    simp only [wF, Bool.and_eq_true] at hw
    simp only [brF] at h
    split at h
    · cases h
      unfold wN
      simp only [Bool.and_eq_true]
      exact hw.1
    · exact brF_w rest b u l g hw.2 h
end Go.Proofs.YtfppglfajbmapaaDoor.Lo

/- What a linked node is, kind by kind, and what the type switches of the program answer. -/
namespace Go.Proofs.YtfppglfajbmapaaDoor.Lo
open Go.RowKit

/-! ### The type switch -/
theorem taEndEnd (v : Value) (w : World) : (Instr.typeAssert (.iface ( /- t -/ 193) v) ( /- t -/ 87) ( /- t -/ 193) true).run Tryd.prog w = .ok (.tuple #[v, .bool true]) w := by kernel_rfl
theorem taVarEnd (v : Value) (w : World) : (Instr.typeAssert (.iface ( /- t -/ 196) v) ( /- t -/ 87) ( /- t -/ 193) true).run Tryd.prog w = .ok (.tuple #[.agg #[], .bool false]) w := by kernel_rfl
theorem taLoopEnd (v : Value) (w : World) : (Instr.typeAssert (.iface ( /- t -/ 194) v) ( /- t -/ 87) ( /- t -/ 193) true).run Tryd.prog w = .ok (.tuple #[.agg #[], .bool false]) w := by kernel_rfl
theorem taActEnd (v : Value) (w : World) : (Instr.typeAssert (.iface ( /- t -/ 93) v) ( /- t -/ 87) ( /- t -/ 193) true).run Tryd.prog w = .ok (.tuple #[.agg #[], .bool false]) w := by kernel_rfl
theorem taVarVar (v : Value) (w : World) : (Instr.typeAssert (.iface ( /- t -/ 196) v) ( /- t -/ 87) ( /- t -/ 196) true).run Tryd.prog w = .ok (.tuple #[v, .bool true]) w := by kernel_rfl
theorem taLoopVar (v : Value) (w : World) : (Instr.typeAssert (.iface ( /- t -/ 194) v) ( /- t -/ 87) ( /- t -/ 196) true).run Tryd.prog w = .ok (.tuple #[.agg #[.pointer none], .bool false]) w := by kernel_rfl
theorem taActVar (v : Value) (w : World) : (Instr.typeAssert (.iface ( /- t -/ 93) v) ( /- t -/ 87) ( /- t -/ 196) true).run Tryd.prog w = .ok (.tuple #[.agg #[.pointer none], .bool false]) w := by kernel_rfl
theorem taLoopLoop (v : Value) (w : World) : (Instr.typeAssert (.iface ( /- t -/ 194) v) ( /- t -/ 87) ( /- t -/ 194) true).run Tryd.prog w = .ok (.tuple #[v, .bool true]) w := by kernel_rfl
theorem taActLoop (v : Value) (w : World) : (Instr.typeAssert (.iface ( /- t -/ 93) v) ( /- t -/ 87) ( /- t -/ 194) true).run Tryd.prog w = .ok (.tuple #[.pointer none, .bool false]) w := by kernel_rfl
theorem taActAct (v : Value) (w : World) : (Instr.typeAssert (.iface ( /- t -/ 93) v) ( /- t -/ 87) ( /- t -/ 93) true).run Tryd.prog w = .ok (.tuple #[v, .bool true]) w := by kernel_rfl
theorem taEndVar (v : Value) (w : World) : (Instr.typeAssert (.iface ( /- t -/ 193) v) ( /- t -/ 87) ( /- t -/ 196) true).run Tryd.prog w = .ok (.tuple #[.agg #[.pointer none], .bool false]) w := by kernel_rfl
theorem taEndLoop (v : Value) (w : World) : (Instr.typeAssert (.iface ( /- t -/ 193) v) ( /- t -/ 87) ( /- t -/ 194) true).run Tryd.prog w = .ok (.tuple #[.pointer none, .bool false]) w := by kernel_rfl
theorem taEndAct (v : Value) (w : World) : (Instr.typeAssert (.iface ( /- t -/ 193) v) ( /- t -/ 87) ( /- t -/ 93) true).run Tryd.prog w = .ok (.tuple #[.pointer none, .bool false]) w := by kernel_rfl

theorem linked_rec {w0 : World} {fr lab fr' : ByteArray} {ix k' ix' : Int} {kids' : F} {ps ks : List Nat} {v : Value} (h : LkN w0 4 fr ix (.cons lab k' fr' ix' kids' .nil) ps v ks) :
    ∃ L T x ks', v = .iface ( /- t -/ 194) (.pointer (some ⟨L, 0, none⟩)) ∧ Blk w0 L #[.iface T x] ∧ L ∉ ps ∧ LkN w0 k' fr' ix' kids' (ps ++ [L]) (.iface T x) ks' := by
  rcases h with ⟨h, -⟩ | ⟨h, -⟩ | ⟨-, L, s, u, ks', rfl, hb, hL, rfl, v', ys, k1, rs, e1, e2, hn, hr⟩ | ⟨h, -⟩
  · exact absurd h (by decide)
  · exact absurd h (by decide)
  · injection e1 with _ e1
    injection e1 with e1 _
    subst e1
    have hln : LkN w0 k' fr' ix' kids' (ps ++ [L]) u k1 := hn
    obtain ⟨T, x, rfl⟩ := hln.val
    exact ⟨L, T, x, k1, rfl, hb, hL, hln⟩
  · rcases h with h | h <;> exact absurd h (by decide)

theorem nodup_snoc {ps : List Nat} {L : Nat} (h : ps.Nodup) (hL : L ∉ ps) : (ps ++ [L]).Nodup :=
  List.nodup_append.2 ⟨h, by simp, fun x hx y hy => by rintro rfl; rw [List.mem_singleton.1 hy] at hx; exact hL hx⟩

theorem linked_act {w0 : World} {k ix : Int} {fr : ByteArray} {kids : F} {ps ks : List Nat} {v : Value} (hk : k = 2 ∨ k = 3) (h : LkN w0 k fr ix kids ps v ks) :
    ∃ A r cap cs xs ks', v = .iface ( /- t -/ 93) (.pointer (some ⟨A, 0, none⟩)) ∧ Blk w0 A #[.int .i64 k, .string fr, .slice (some ⟨r, 0, none⟩) kids.len cap] ∧ kids.len ≤ cap ∧ cap ≤ maxLen ∧ Blk w0 r cs ∧ cs.toList.take (kids.len * 2) = xs ∧ Lk w0 kids ps xs ks' := by
  rcases h with ⟨h, -⟩ | ⟨h, -⟩ | ⟨h, -⟩ | ⟨-, A, r, cap, cs, xs, ks', h1, h2, h3, h4, h5, h6, -, h8⟩
  · omega
  · omega
  · omega
  · exact ⟨A, r, cap, cs, xs, ks', h1, h2, h3, h4, h5, h6, h8⟩

/-- The next branch of a row. -/
theorem linked_next {w0 : World} {lab : ByteArray} {kd ix' : Int} {fr' : ByteArray} {kids' rest : F} {ps : List Nat} {xs ys : List Value} {rs : List Nat} {r n k : Nat} {cs : Array Value} (hl : Lk w0 (.cons lab kd fr' ix' kids' rest) ps ys rs) (hd : xs.drop (k * 2) = ys) (hr : Blk w0 r cs) (hx : cs.toList.take (n * 2) = xs) :
    ∃ T x ys' k1 r1, w0.cell? ⟨r, k * 2, none⟩ = some (.string lab) ∧ w0.cell? ⟨r, k * 2 + 1, none⟩ = some (.iface T x) ∧ LkN w0 kd fr' ix' kids' ps (.iface T x) k1 ∧ Lk w0 rest ps ys' r1 ∧ xs.drop ((k + 1) * 2) = ys' := by
  obtain ⟨v, ys', k1, r1, rfl, rfl, hn, hrest⟩ := hl
  have hln : LkN w0 kd fr' ix' kids' ps v k1 := hn
  obtain ⟨T, x, rfl⟩ := hln.val
  have g : ∀ i, xs[k * 2 + i]? = (Value.string lab :: Value.iface T x :: ys')[i]? := fun i => by rw [← hd, List.getElem?_drop]
  have cc : ∀ i v, xs[i]? = some v → w0.cell? ⟨r, i, none⟩ = some v := fun i v h => by
    rw [hr.cell i]
    rw [← hx, List.getElem?_take] at h
    split at h
    · simpa using h
    · cases h
  refine ⟨T, x, ys', k1, r1, cc _ _ (g 0), cc _ _ (g 1), hln, hrest, ?_⟩
  rw [show (k + 1) * 2 = k * 2 + 2 by omega, ← List.drop_drop, hd]
  rfl
end Go.Proofs.YtfppglfajbmapaaDoor.Lo

/- The recursions around a linked node, as trees: the environment in which a linked node is written out again. -/
namespace Go.Proofs.YtfppglfajbmapaaDoor.Lo
open Go.RowKit

/-- The blocks of the recursions, the outermost first; the list has the innermost first. -/
def blks (es : List (Nat × Nd)) : List Nat := (es.map Prod.fst).reverse
theorem blks_cons (b : Nat) (g : Nd) (es : List (Nat × Nd)) : blks ((b, g) :: es) = blks es ++ [b] := by
  simp [blks]
theorem blks_len (es : List (Nat × Nd)) : (blks es).length = es.length := by simp [blks]
theorem blks_mem {es : List (Nat × Nd)} {b : Nat} (h : b ∈ blks es) : ∃ g, (b, g) ∈ es := by
  simp only [blks, List.mem_reverse, List.mem_map] at h
  obtain ⟨⟨b', g⟩, h1, rfl⟩ := h
  exact ⟨g, h1⟩

/-- What stands for the recursions when they are written out. -/
def lvals : List (Nat × Nd) → List (Option Nd)
  | [] => []
  | (_, g) :: es => some (cpN (lvals es) g) :: lvals es
/-- .. and the innermost m of them are around. -/
def lenv : Nat → List (Nat × Nd) → List (Option Nd)
  | 0, es => lvals es
  | _ + 1, [] => []
  | m + 1, _ :: es => none :: lenv m es
theorem lvals_len : ∀ es, (lvals es).length = es.length
  | [] => rfl
  | (_, _) :: es => by simp [lvals, lvals_len es]
theorem lenv_len : ∀ m es, (lenv m es).length = es.length
  | 0, es => lvals_len es
  | _ + 1, [] => rfl
  | m + 1, _ :: es => by simp [lenv, lenv_len m es]
theorem lenv_in : ∀ (m i : Nat) (es : List (Nat × Nd)), i < m → i < es.length → ((lenv m es)[i]?).join = none
  | 0, _, _, h, _ => by omega
  | _ + 1, _, [], _, h => by simp at h
  | m + 1, 0, _ :: es, _, _ => rfl
  | m + 1, i + 1, _ :: es, h, h2 => by
    have := lenv_in m i es (by omega) (by simp at h2; omega)
    simpa [lenv] using this
theorem lenv_out : ∀ (m : Nat) (p : List (Nat × Nd)) (b : Nat) (g : Nd) (t : List (Nat × Nd)), m ≤ p.length → ((lenv m (p ++ (b, g) :: t))[p.length]?).join = some (cpN (lvals t) g)
  | 0, [], b, g, t, _ => rfl
  | 0, (b', g') :: p, b, g, t, _ => by
    have := lenv_out 0 p b g t (by omega)
    simpa [lenv, lvals] using this
  | m + 1, [], b, g, t, h => by simp at h
  | m + 1, (b', g') :: p, b, g, t, h => by
    have := lenv_out m p b g t (by simp at h; omega)
    simpa [lenv] using this

/-- Every recursion of the environment is linked in its place. -/
def EnvL (w0 : World) : List (Nat × Nd) → Prop
  | [] => True
  | (b, g) :: es => g.k = 4 ∧ wN g (es.length : Int) 0 = true ∧
      (∃ ks, LkN w0 g.k g.fr g.ix g.kids (blks es) (.iface ( /- t -/ 194) (.pointer (some ⟨b, 0, none⟩))) ks) ∧ b ∉ blks es ∧ EnvL w0 es

theorem EnvL.suffix {w0 : World} : ∀ (p es : List (Nat × Nd)), EnvL w0 (p ++ es) → EnvL w0 es
  | [], _, h => h
  | (_, _) :: p, es, h => EnvL.suffix p es h.2.2.2.2
theorem EnvL.nodup {w0 : World} : ∀ (es : List (Nat × Nd)), EnvL w0 es → (blks es).Nodup
  | [], _ => List.nodup_nil
  | (b, g) :: es, h => by
    rw [blks_cons]
    exact nodup_snoc (EnvL.nodup es h.2.2.2.2) h.2.2.2.1
theorem EnvL.below {w0 w : World} (hb : Same w0 w (List.range w0.heap.size)) : ∀ (es : List (Nat × Nd)), EnvL w0 es → EnvL w es
  | [], _ => trivial
  | (b, g) :: es, h => by
    obtain ⟨h1, h2, ⟨ks, h3⟩, h4, h5⟩ := h
    exact ⟨h1, h2, ⟨ks, h3.same (fun x hx => hb x (List.mem_range.2 (h3.lt x hx)))⟩, h4, EnvL.below hb es h5⟩
theorem EnvL.blk {w0 : World} : ∀ (es : List (Nat × Nd)), EnvL w0 es → ∀ x, x ∈ blks es → ∃ cs, Blk w0 x cs
  | [], _, x, hx => by simp [blks] at hx
  | (b, g) :: es, h, x, hx => by
    obtain ⟨h1, h2, ⟨ks, h3⟩, h4, h5⟩ := h
    rw [blks_cons, List.mem_append] at hx
    rcases hx with hx | hx
    · exact EnvL.blk es h5 x hx
    · rw [List.mem_singleton.1 hx]
      rcases h3 with ⟨h3, -⟩ | ⟨h3, -⟩ | ⟨-, L, s, u, ks', h3, hb, -⟩ | ⟨h3, -⟩
      · omega
      · omega
      · injection h3 with _ h3
        injection h3 with h3
        injection h3 with h3
        injection h3 with h3
        subst h3
        exact ⟨_, hb⟩
      · omega

theorem empty_of {fr : ByteArray} (h : fr.toList = []) : fr = ⟨#[]⟩ := by
  rw [ByteArray.toList_eq] at h
  cases fr with
  | mk d =>
    have h2 : d = #[] := by simpa using h
    rw [h2]
theorem empty_size {fr : ByteArray} (h : fr.toList = []) : fr.size ≤ maxLen := by
  rw [empty_of h]
  exact Nat.zero_le _
theorem int_wf {x : Int} (h0 : 0 ≤ x) (h1 : x ≤ 1000000000) : (Lit.int .i64 x).wf = true := by
  have e1 : IntKind.i64.min = -9223372036854775808 := rfl
  have e2 : IntKind.i64.max = 9223372036854775807 := rfl
  simp only [Lit.wf, Bool.and_eq_true, decide_eq_true_eq]
  rw [e1, e2]
  omega

/-- A node that fits its place fits into values. -/
theorem fit_of_w {g : Nd} {b u : Int} (h : wN g b u = true) (hu : 0 ≤ u) (hb : b ≤ 1000000) : Fit g := by
  unfold wN at h
  simp only [Bool.and_eq_true] at h
  obtain ⟨h1, h2⟩ := h
  have h0 : (Lit.int .i64 0).wf = true := by decide
  by_cases k1 : g.k = 1
  · rw [k1] at h1
    obtain ⟨a, c, -⟩ := shape_end h1
    refine ⟨empty_size a, by rw [k1]; decide, by rw [c]; exact h0⟩
  by_cases k2 : g.k = 2 ∨ g.k = 3
  · obtain ⟨a, c, -⟩ := shape_act k2 h1
    refine ⟨by rw [role_size a]; decide, by rcases k2 with e | e <;> rw [e] <;> decide, by rw [c]; exact h0⟩
  by_cases k4 : g.k = 4
  · rw [k4] at h1
    obtain ⟨a, c, -⟩ := shape_rec h1
    refine ⟨empty_size a, by rw [k4]; decide, by rw [c]; exact h0⟩
  by_cases k5 : g.k = 5
  · rw [k5] at h1
    obtain ⟨a, -⟩ := shape_var h1
    rw [if_pos k5] at h2
    simp only [Bool.and_eq_true, decide_eq_true_eq] at h2
    refine ⟨empty_size a, by rw [k5]; decide, ?_⟩
    exact int_wf (by omega) (by omega)
  · simp [shapeB, k1, k2, k4, k5] at h1

theorem EnvL.fits {w0 : World} : ∀ (es : List (Nat × Nd)), EnvL w0 es → es.length ≤ 1000000 → ∀ U, some U ∈ lvals es → Fit U
  | [], _, _, U, hU => by simp [lvals] at hU
  | (b, g) :: es, h, hl, U, hU => by
    obtain ⟨h1, h2, -, -, h5⟩ := h
    have hl2 : es.length ≤ 1000000 := by simp at hl; omega
    simp only [lvals, List.mem_cons, Option.some.injEq] at hU
    rcases hU with rfl | hU
    · exact cpN_fit (EnvL.fits es h5 hl2) (fit_of_w h2 (by omega) (by omega))
    · exact EnvL.fits es h5 hl2 U hU
theorem EnvL.fitsM {w0 : World} : ∀ (m : Nat) (es : List (Nat × Nd)), EnvL w0 es → es.length ≤ 1000000 → ∀ U, some U ∈ lenv m es → Fit U
  | 0, es, h, hl, U, hU => EnvL.fits es h hl U hU
  | _ + 1, [], _, _, U, hU => by simp [lenv] at hU
  | m + 1, (b, g) :: es, h, hl, U, hU => by
    simp only [lenv, List.mem_cons, reduceCtorEq, false_or] at hU
    exact EnvL.fitsM m es h.2.2.2.2 (by simp at hl; omega) U hU

/-- A linked variable is linked to its recursion. -/
theorem linked_var {w0 : World} {fr : ByteArray} {ix : Int} {kids : F} {es : List (Nat × Nd)} {v : Value} {ks : List Nat} (h : LkN w0 5 fr ix kids (blks es) v ks) :
    ∃ p b g t, es = p ++ (b, g) :: t ∧ ix = (p.length : Nat) ∧ v = .iface ( /- t -/ 196) (.agg #[.pointer (some ⟨b, 0, none⟩)]) := by
  rcases h with ⟨h, -⟩ | ⟨-, ⟨l, h0, h1, h2, rfl⟩, -⟩ | ⟨h, -⟩ | ⟨h, -⟩
  · exact absurd h (by decide)
  · obtain ⟨i, rfl⟩ := Int.eq_ofNat_of_zero_le h0
    rw [blks_len] at h1 h2
    have hi : i < es.length := by omega
    simp only [Int.toNat_natCast] at h2
    have h3 : (es.map Prod.fst)[i]? = some l := by
      unfold blks at h2
      rw [List.getElem?_reverse (by simp; omega)] at h2
      simp only [List.length_map] at h2
      rwa [show es.length - 1 - (es.length - 1 - i) = i by omega] at h2
    rw [List.getElem?_map, List.getElem?_eq_getElem hi] at h3
    have h4 : es[i].1 = l := by simpa using h3
    refine ⟨es.take i, es[i].1, es[i].2, es.drop (i + 1), ?_, ?_, ?_⟩
    · rw [show (es[i].1, es[i].2) = es[i] from rfl]
      rw [List.getElem_cons_drop hi]
      exact (List.take_append_drop i es).symm
    · rw [List.length_take]; omega
    · rw [h4]
  · exact absurd h (by decide)
  · rcases h with h | h <;> exact absurd h (by decide)

theorem nodup_rev {l : List Nat} : l.reverse.Nodup ↔ l.Nodup := by
  unfold List.Nodup
  rw [List.pairwise_reverse]
  constructor
  · exact fun h => h.imp Ne.symm
  · exact fun h => h.imp Ne.symm

/-! ### The scope holds the innermost m of them -/
theorem scope_in (p : List (Nat × Nd)) (b : Nat) (g : Nd) (t : List (Nat × Nd)) (m : Nat) (h : p.length < m) (hm : m ≤ (p ++ (b, g) :: t).length) :
    (blks ((p ++ (b, g) :: t).take m))[m - 1 - p.length]? = some b ∧ (blks ((p ++ (b, g) :: t).take m)).length = (m - 1 - p.length) + 1 + p.length := by
  have hl : ((p ++ (b, g) :: t).take m).length = m := by rw [List.length_take]; omega
  refine ⟨?_, by rw [blks_len, hl]; omega⟩
  unfold blks
  rw [List.getElem?_reverse (by rw [List.length_map, hl]; omega), List.length_map, hl, show m - 1 - (m - 1 - p.length) = p.length by omega, List.getElem?_map, List.getElem?_take_of_lt h, List.getElem?_append_right (Nat.le_refl _)]
  simp
theorem scope_out {w0 : World} (p : List (Nat × Nd)) (b : Nat) (g : Nd) (t : List (Nat × Nd)) (m : Nat) (h : m ≤ p.length) (he : EnvL w0 (p ++ (b, g) :: t)) : b ∉ blks ((p ++ (b, g) :: t).take m) := by
  intro hb
  have hnd := he.nodup
  rw [List.take_append_of_le_length h] at hb
  have hb2 : b ∈ p.map Prod.fst := by
    simp only [blks, List.mem_reverse, List.mem_map] at hb ⊢
    obtain ⟨x, hx, rfl⟩ := hb
    exact ⟨x, List.mem_of_mem_take hx, rfl⟩
  unfold blks at hnd
  rw [nodup_rev, List.map_append, List.nodup_append] at hnd
  exact hnd.2.2 b hb2 b (by simp) rfl
theorem scope_nodup {w0 : World} (es : List (Nat × Nd)) (m : Nat) (he : EnvL w0 es) : (blks (es.take m)).Nodup := by
  have := he.nodup
  unfold blks at this ⊢
  rw [nodup_rev] at this ⊢
  rw [List.map_take]
  exact this.sublist (List.take_sublist _ _)
theorem scope_mem {es : List (Nat × Nd)} {m x : Nat} (h : x ∈ blks (es.take m)) : x ∈ blks es := by
  simp only [blks, List.mem_reverse, List.mem_map] at h ⊢
  obtain ⟨y, hy, rfl⟩ := h
  exact ⟨y, List.mem_of_mem_take hy, rfl⟩
theorem scope_len (es : List (Nat × Nd)) (m : Nat) (h : m ≤ es.length) : (blks (es.take m)).length = m := by
  rw [blks_len, List.length_take]; omega
end Go.Proofs.YtfppglfajbmapaaDoor.Lo

/- The linked nodes of a local type as closed trees: what a value stands for, what it unfolds to, what an action's row says. -/
namespace Go.Proofs.YtfppglfajbmapaaDoor.Lo
open Go.RowKit

theorem EnvL.va {w0 : World} : ∀ (es : List (Nat × Nd)), EnvL w0 es → VaS (lvals es)
  | [], _ => va_nil
  | (b, g) :: es, h => by
    have ih := EnvL.va es h.2.2.2.2
    intro x hx
    simp only [lvals, List.mem_cons] at hx
    rcases hx with rfl | hx
    · exact ⟨_, rfl, cpN_w _ ih g (by rw [lvals_len]; exact h.2.1)⟩
    · exact ih x hx

/-- The recursions' own blocks lie among bs. -/
def EnvB (w : World) (bs : List Nat) : List (Nat × Nd) → Prop
  | [] => True
  | (b, g) :: es => (∃ ks, LkN w g.k g.fr g.ix g.kids (blks es) (.iface ( /- t -/ 194) (.pointer (some ⟨b, 0, none⟩))) ks ∧ ∀ x, x ∈ ks → x ∈ bs) ∧ EnvB w bs es
theorem EnvB.suffix {w : World} {bs : List Nat} : ∀ (p es : List (Nat × Nd)), EnvB w bs (p ++ es) → EnvB w bs es
  | [], _, h => h
  | (_, _) :: p, es, h => EnvB.suffix p es h.2
theorem EnvB.same {w w' : World} {bs : List Nat} (hb : Same w w' (List.range w.heap.size)) : ∀ (es : List (Nat × Nd)), EnvB w bs es → EnvB w' bs es
  | [], _ => trivial
  | (b, g) :: es, h => by
    obtain ⟨⟨ks, h3, h4⟩, h5⟩ := h
    exact ⟨⟨ks, h3.same (fun x hx => hb x (List.mem_range.2 (h3.lt x hx))), h4⟩, EnvB.same hb es h5⟩

/-- A value that is linked as a closed tree, in the blocks bs. -/
def Rep (w : World) (bs : List Nat) (v : Value) (T : Nd) : Prop :=
  ∃ (es : List (Nat × Nd)) (N : Nd) (ks : List Nat), LkN w N.k N.fr N.ix N.kids (blks es) v ks ∧ (∀ x, x ∈ ks → x ∈ bs) ∧ EnvL w es ∧ EnvB w bs es ∧ cpN (lvals es) N = T ∧ wN N (es.length : Int) 0 = true
theorem Rep.w {w : World} {bs : List Nat} {v : Value} {T : Nd} (h : Rep w bs v T) : wN T 0 0 = true := by
  obtain ⟨es, N, ks, -, -, h2, -, rfl, h4⟩ := h
  exact cpN_w _ (EnvL.va es h2) N (by rw [lvals_len]; exact h4)
theorem Rep.root {w : World} {v : Value} {g : Nd} {ks : List Nat} (h : LkN w g.k g.fr g.ix g.kids [] v ks) (hw : wN g 0 0 = true) : Rep w ks v g :=
  ⟨[], g, ks, h, fun _ h => h, trivial, trivial, cpN_nil g, hw⟩
theorem Rep.same {w w' : World} {bs : List Nat} {v : Value} {T : Nd} (h : Rep w bs v T) (hb : Same w w' (List.range w.heap.size)) : Rep w' bs v T := by
  obtain ⟨es, N, ks, h1, h0, h2, h5, h3, h4⟩ := h
  exact ⟨es, N, ks, h1.same (fun x hx => hb x (List.mem_range.2 (h1.lt x hx))), h0, EnvL.below hb es h2, EnvB.same hb es h5, h3, h4⟩
theorem Rep.val {w : World} {bs : List Nat} {v : Value} {T : Nd} (h : Rep w bs v T) : ∃ U x, v = .iface U x := by
  obtain ⟨es, N, ks, h1, -⟩ := h
  exact h1.val

/-- The row of an action's branches: a label and a value each. -/
def RepF (w : World) (bs : List Nat) : F → List Value → Prop
  | .nil, xs => xs = []
  | .cons lab k fr ix kids rest, xs => ∃ v ys, xs = .string lab :: v :: ys ∧ Rep w bs v ⟨k, fr, ix, kids⟩ ∧ RepF w bs rest ys
/-- What stands in an action's block. -/
def RowOf (w : World) (A : Nat) (k : Int) (fr : ByteArray) (xs : List Value) : Prop :=
  ∃ (r n cap : Nat) (cs : Array Value), Blk w A #[.int .i64 k, .string fr, .slice (some ⟨r, 0, none⟩) n cap] ∧ n ≤ cap ∧ cap ≤ maxLen ∧ Blk w r cs ∧ cs.toList.take (n * 2) = xs ∧ xs.length = n * 2
def Act (w : World) (bs : List Nat) (A : Nat) (T : Nd) : Prop := A ∈ bs ∧ ∃ xs, RowOf w A T.k T.fr xs ∧ RepF w bs T.kids xs

theorem Blk.one {w : World} {b : Nat} {cs ds : Array Value} (h : Blk w b cs) (h' : Blk w b ds) : cs = ds := by
  obtain ⟨t, h⟩ := h
  obtain ⟨t', h'⟩ := h'
  rw [h] at h'
  simp only [Option.some.injEq, Obj.cells.injEq] at h'
  exact h'.1
theorem RowOf.one {w : World} {A : Nat} {k k' : Int} {fr fr' : ByteArray} {xs xs' : List Value} (h : RowOf w A k fr xs) (h' : RowOf w A k' fr' xs') : k = k' ∧ fr = fr' ∧ xs = xs' := by
  obtain ⟨r, n, cap, cs, h1, -, -, h2, rfl, -⟩ := h
  obtain ⟨r', n', cap', cs', h1', -, -, h2', rfl, -⟩ := h'
  have e := h1.one h1'
  simp only [Array.mk.injEq, List.cons.injEq, Value.int.injEq, Value.string.injEq, Value.slice.injEq, Option.some.injEq, Addr.mk.injEq, true_and, and_true] at e
  obtain ⟨e1, e2, e3, e4, e5⟩ := e
  subst e1 e2 e3 e4 e5
  have e := h2.one h2'
  subst e
  exact ⟨rfl, rfl, rfl⟩

/-- The value behind a label. -/
def valF : List Value → List UInt8 → Option Value
  | .string lab :: v :: ys, l => if lab.toList = l then some v else valF ys l
  | _, _ => none
theorem br_row {w : World} {bs : List Nat} : ∀ (f : F) (xs : List Value) (l : List UInt8), RepF w bs f xs → (brF f l = none ∧ valF xs l = none) ∨ ∃ u v, brF f l = some u ∧ valF xs l = some v ∧ Rep w bs v u
  | .nil, xs, l, h => by
    have e : xs = [] := h
    subst e
    exact Or.inl ⟨rfl, rfl⟩
  | .cons lab k fr ix kids rest, xs, l, h => by
    obtain ⟨v, ys, rfl, h1, h2⟩ := h
    unfold brF valF
    by_cases e : lab.toList = l
    · rw [if_pos e, if_pos e]
      exact Or.inr ⟨_, _, rfl, rfl, h1⟩
    · rw [if_neg e, if_neg e]
      exact br_row rest ys l h2
theorem RepF.br {w : World} {bs : List Nat} {f : F} {xs : List Value} (h : RepF w bs f xs) (l : List UInt8) : (brF f l = none ∧ valF xs l = none) ∨ ∃ u v, brF f l = some u ∧ valF xs l = some v ∧ Rep w bs v u := br_row f xs l h
theorem rep_some {w : World} {bs bs' : List Nat} {f f' : F} {xs : List Value} {l : List UInt8} (h : RepF w bs f xs) (h' : RepF w bs' f' xs) : (brF f l).isSome = (brF f' l).isSome := by
  rcases h.br l with ⟨e1, e2⟩ | ⟨u, v, e1, e2, -⟩ <;> rcases h'.br l with ⟨e3, e4⟩ | ⟨u', v', e3, e4, -⟩ <;> rw [e1, e3]
  · rw [e2] at e4; cases e4
  · rw [e2] at e4; cases e4
  · rfl
theorem subsF_same {w : World} {bs bs' cs cs' : List Nat} {f f' g g' : F} {xs ys : List Value} (h : RepF w bs f xs) (h' : RepF w bs' f' xs) (q : RepF w cs g ys) (q' : RepF w cs' g' ys) : subsF f g = subsF f' g' := by
  have e : subsF f g = true ↔ subsF f' g' = true := by
    rw [subsF_iff, subsF_iff]
    constructor
    · intro H l hl
      rw [← rep_some q q']
      exact H l (by rw [rep_some h h']; exact hl)
    · intro H l hl
      rw [rep_some q q']
      exact H l (by rw [← rep_some h h']; exact hl)
  cases h1 : subsF f g <;> cases h2 : subsF f' g' <;> simp [h1, h2] at e ⊢
theorem fitB_same {w : World} {bs bs' cs cs' : List Nat} {A B : Nat} {x x' y y' : Nd} (sub : Bool) (h : Act w bs A x) (h' : Act w bs' A x') (q : Act w cs B y) (q' : Act w cs' B y') : fitB sub x y = fitB sub x' y' := by
  obtain ⟨-, xs, r1, f1⟩ := h
  obtain ⟨-, xs', r1', f1'⟩ := h'
  obtain ⟨-, ys, r2, f2⟩ := q
  obtain ⟨-, ys', r2', f2'⟩ := q'
  obtain ⟨e1, e2, rfl⟩ := r1.one r1'
  obtain ⟨e3, e4, rfl⟩ := r2.one r2'
  unfold fitB
  rw [e1, e2, e3, e4, subsF_same f1 f1' f2 f2', subsF_same f2 f2' f1 f1']

/-- The copies of the nodes of a linked row. -/
theorem rep_row {w : World} {bs : List Nat} {es : List (Nat × Nd)} (he : EnvL w es) (heb : EnvB w bs es) : ∀ (f : F) (xs : List Value) (ks : List Nat), Lk w f (blks es) xs ks → (∀ x, x ∈ ks → x ∈ bs) → wF f (es.length : Int) 0 = true → RepF w bs (cpF (lvals es) f) xs
  | .nil, xs, ks, h, _, _ => by
    rw [cpF]
    exact h.1
  | .cons lab k fr ix kids rest, xs, _, h, hsub, hw => by
    obtain ⟨v, ys, ks, rs, rfl, rfl, hn, hr⟩ := h
    simp only [wF, Bool.and_eq_true] at hw
    rw [cpF_cons]
    refine ⟨v, ys, rfl, ⟨es, ⟨k, fr, ix, kids⟩, ks, hn, fun x hx => hsub x (List.mem_append_left _ hx), he, heb, rfl, ?_⟩, rep_row he heb rest ys rs hr (fun x hx => hsub x (List.mem_append_right _ hx)) hw.2⟩
    unfold wN
    simp only [Bool.and_eq_true]
    exact hw.1

theorem linked_rec2 {w0 : World} {fr lab fr' : ByteArray} {ix k' ix' : Int} {kids' : F} {ps ks : List Nat} {v : Value} (h : LkN w0 4 fr ix (.cons lab k' fr' ix' kids' .nil) ps v ks) :
    ∃ L T x ks', v = .iface ( /- t -/ 194) (.pointer (some ⟨L, 0, none⟩)) ∧ Blk w0 L #[.iface T x] ∧ L ∉ ps ∧ LkN w0 k' fr' ix' kids' (ps ++ [L]) (.iface T x) ks' ∧ ∀ x, x ∈ ks' → x ∈ ks := by
  rcases h with ⟨h, -⟩ | ⟨h, -⟩ | ⟨-, L, s, u, ks', rfl, hb, hL, rfl, v', ys, k1, rs, e1, e2, hn, hr⟩ | ⟨h, -⟩
  · exact absurd h (by decide)
  · exact absurd h (by decide)
  · injection e1 with _ e1
    injection e1 with e1 _
    subst e1
    have hln : LkN w0 k' fr' ix' kids' (ps ++ [L]) u k1 := hn
    obtain ⟨T, x, rfl⟩ := hln.val
    exact ⟨L, T, x, k1, rfl, hb, hL, hln, fun x hx => List.mem_cons_of_mem _ (by rw [e2]; exact List.mem_append_left _ hx)⟩
  · rcases h with h | h <;> exact absurd h (by decide)
theorem linked_act2 {w0 : World} {k ix : Int} {fr : ByteArray} {kids : F} {ps ks : List Nat} {v : Value} (hk : k = 2 ∨ k = 3) (h : LkN w0 k fr ix kids ps v ks) :
    ∃ A r cap cs xs ks', v = .iface ( /- t -/ 93) (.pointer (some ⟨A, 0, none⟩)) ∧ Blk w0 A #[.int .i64 k, .string fr, .slice (some ⟨r, 0, none⟩) kids.len cap] ∧ kids.len ≤ cap ∧ cap ≤ maxLen ∧ Blk w0 r cs ∧ cs.toList.take (kids.len * 2) = xs ∧ Lk w0 kids ps xs ks' ∧ (∀ x, x ∈ ks' → x ∈ ks) ∧ A ∈ ks := by
  rcases h with ⟨h, -⟩ | ⟨h, -⟩ | ⟨h, -⟩ | ⟨-, A, r, cap, cs, xs, ks', h1, h2, h3, h4, h5, h6, h7, h8⟩
  · omega
  · omega
  · omega
  · exact ⟨A, r, cap, cs, xs, ks', h1, h2, h3, h4, h5, h6, h8, fun x hx => by rw [h7]; simp [hx], by rw [h7]; simp⟩
/-- How many blocks a linked tree has. -/
theorem Lk.blen {w : World} : ∀ (f : F) (ps : List Nat) (xs : List Value) (bs : List Nat), Lk w f ps xs bs → bs.length ≤ 2 * f.sz := by
  intro f
  induction f with
  | nil => intro ps xs bs h; rw [h.2]; simp
  | cons lab k fr ix kids rest ihk ihr =>
    intro ps xs bs h
    obtain ⟨v, ys, ks, rs, e1, rfl, hn, hr⟩ := h
    have h2 := ihr _ _ _ hr
    have h1 : ks.length ≤ 2 * kids.sz + 2 := by
      rcases hn with ⟨-, -, rfl⟩ | ⟨-, -, rfl⟩ | ⟨h1, b', s, u, ks', h2, h3, h4, rfl, h6⟩ | ⟨h1, b', r, cap, cs, xs, ks', h2, h3, h4, h5, h6, h7, rfl, h9⟩
      · simp
      · simp
      · have := ihk _ _ _ h6
        simp only [List.length_cons]
        omega
      · have := ihk _ _ _ h9
        simp only [List.length_cons]
        omega
    rw [List.length_append]
    simp only [F.sz]
    omega
theorem LkN.blen {w : World} {k : Int} {fr : ByteArray} {ix : Int} {kids : F} {ps : List Nat} {v : Value} {bs : List Nat} (h : LkN w k fr ix kids ps v bs) : bs.length ≤ 2 * (kids.sz + 1) := by
  have := Lk.blen (.cons ⟨#[]⟩ k fr ix kids .nil) ps [.string ⟨#[]⟩, v] bs ⟨v, [], bs, [], rfl, by simp, h, rfl, rfl⟩
  simp only [F.sz] at this
  omega

/-- What a linked value is, kind by kind. -/
theorem Rep.cases {w : World} {bs : List Nat} {v : Value} {T : Nd} (h : Rep w bs v T) :
    (T.k = 1 ∧ T.kids = .nil ∧ v = .iface ( /- t -/ 193) (.agg #[])) ∨
    (∃ b, v = .iface ( /- t -/ 196) (.agg #[.pointer (some ⟨b, 0, none⟩)]) ∧ Rep w bs (.iface ( /- t -/ 194) (.pointer (some ⟨b, 0, none⟩))) T) ∨
    (∃ L U x, v = .iface ( /- t -/ 194) (.pointer (some ⟨L, 0, none⟩)) ∧ T.k = 4 ∧ Blk w L #[.iface U x] ∧ Rep w bs (.iface U x) (once T)) ∨
    (∃ A, v = .iface ( /- t -/ 93) (.pointer (some ⟨A, 0, none⟩)) ∧ (T.k = 2 ∨ T.k = 3) ∧ Act w bs A T) := by
  obtain ⟨es, N, ks, hl, hsub, he, heb, rfl, hw⟩ := h
  have hva := EnvL.va es he
  have hwl : wN N ((lvals es).length : Int) 0 = true := by rw [lvals_len]; exact hw
  rcases id hl with ⟨h1, rfl, -⟩ | ⟨h5, -⟩ | ⟨h4, -⟩ | ⟨h2, -⟩
  · left
    have hn : N.kids = .nil := by
      have := hw
      unfold wN at this
      simp only [Bool.and_eq_true] at this
      exact shape_leaf this.1 (by omega) (by omega)
    rw [cpN_k (by omega)]
    refine ⟨h1, ?_, rfl⟩
    simp only [hn, cpF]
  · right; left
    have hl2 := hl
    rw [h5] at hl2
    obtain ⟨p, b, g, t, rfl, hix, rfl⟩ := linked_var hl2
    obtain ⟨g4, gw, -, gb, gt⟩ := EnvL.suffix p _ he
    obtain ⟨⟨gk, gl, gsub⟩, gtb⟩ := EnvB.suffix p _ heb
    have e : cpN (lvals (p ++ (b, g) :: t)) N = cpN (lvals t) g := by
      have := lenv_out 0 p b g t (by omega)
      unfold lenv at this
      unfold cpN
      rw [if_pos h5, hix, Int.toNat_natCast, this]
      rfl
    exact ⟨b, rfl, t, g, gk, gl, gsub, gt, gtb, e.symm, gw⟩
  · right; right; left
    obtain ⟨lab, k, fr, ix, kids, e, hw2⟩ := rec_kid hw h4
    have hl2 := hl
    rw [h4, e] at hl2
    obtain ⟨L, U, x, ks2, hv, hbL, hLp, hln, hk2⟩ := linked_rec2 hl2
    refine ⟨L, U, x, hv, ?_, hbL, (L, N) :: es, ⟨k, fr, ix, kids⟩, ks2, by rw [blks_cons]; exact hln, fun x hx => hsub x (hk2 x hx), ?_, ?_, ?_, ?_⟩
    · rw [cpN_k (by omega)]; exact h4
    · rw [hv] at hl
      exact ⟨h4, hw, ⟨ks, hl⟩, hLp, he⟩
    · rw [hv] at hl
      exact ⟨⟨ks, hl, hsub⟩, heb⟩
    · rw [once_cp hva h4 e hwl]
      rfl
    · rw [show ((((L, N) :: es).length : Nat) : Int) = (es.length : Int) + 1 by simp]
      exact wN_u _ _ _ 0 hw2 (by omega)
  · right; right; right
    obtain ⟨A, r, cap, cs, xs, ks', rfl, hA, hc1, hc2, hr, hx, hlk, hk2, hAk⟩ := linked_act2 h2 hl
    have hk : cpN (lvals es) N = ⟨N.k, N.fr, N.ix, cpF (lvals es) N.kids⟩ := by
      rw [cpN_k (by omega), if_neg (by omega)]
    have hwf : wF N.kids (es.length : Int) 0 = true := by
      have := hw
      unfold wN at this
      simp only [Bool.and_eq_true] at this
      have := this.2
      rw [if_neg (by omega), if_neg (by omega), if_pos h2] at this
      exact this
    rw [hk]
    exact ⟨A, rfl, h2, hsub A hAk, xs, ⟨r, _, cap, cs, hA, hc1, hc2, hr, hx, hlk.length⟩, rep_row he heb _ _ _ hlk (fun x hx => hsub x (hk2 x hx)) hwf⟩

/-- What a value unfolds to, as the memory says: nothing more, or an action. -/
inductive UnfTo (w : World) : Value → Option Nat → Prop
  | fin : UnfTo w (.iface ( /- t -/ 193) (.agg #[])) none
  | act (A : Nat) : UnfTo w (.iface ( /- t -/ 93) (.pointer (some ⟨A, 0, none⟩))) (some A)
  | var (b : Nat) (r : Option Nat) (h : UnfTo w (.iface ( /- t -/ 194) (.pointer (some ⟨b, 0, none⟩))) r) : UnfTo w (.iface ( /- t -/ 196) (.agg #[.pointer (some ⟨b, 0, none⟩)])) r
  | loop (L : Nat) (U : TypeId) (x : Value) (r : Option Nat) (hb : Blk w L #[.iface U x]) (h : UnfTo w (.iface U x) r) : UnfTo w (.iface ( /- t -/ 194) (.pointer (some ⟨L, 0, none⟩))) r

/-- What a value unfolds to stands for the unfolded tree. -/
theorem UnfTo.rep {w : World} {bs : List Nat} {v : Value} {r : Option Nat} (h : UnfTo w v r) : ∀ T, Rep w bs v T → (r = none ∧ (unf T).k = 1 ∧ (unf T).kids = .nil) ∨ ∃ A, r = some A ∧ ((unf T).k = 2 ∨ (unf T).k = 3) ∧ Act w bs A (unf T) := by
  induction h with
  | fin =>
    intro T hT
    have hw := hT.w
    rcases hT.cases with ⟨h1, h2, -⟩ | ⟨b, e, -⟩ | ⟨L, U, x, e, -⟩ | ⟨A, e, -⟩
    · left
      rw [unf_stop hw (by omega)]
      exact ⟨rfl, h1, h2⟩
    · injection e with e; exact absurd e (by decide)
    · injection e with e; exact absurd e (by decide)
    · injection e with e; exact absurd e (by decide)
  | act A =>
    intro T hT
    have hw := hT.w
    rcases hT.cases with ⟨-, -, e⟩ | ⟨b, e, -⟩ | ⟨L, U, x, e, -⟩ | ⟨A', e, h2, h3⟩
    · injection e with e; exact absurd e (by decide)
    · injection e with e; exact absurd e (by decide)
    · injection e with e; exact absurd e (by decide)
    · right
      simp only [Value.iface.injEq, Value.pointer.injEq, Option.some.injEq, Addr.mk.injEq, and_true, true_and] at e
      subst e
      rw [unf_stop hw (by omega)]
      exact ⟨A, rfl, h2, h3⟩
  | var b r h ih =>
    intro T hT
    rcases hT.cases with ⟨-, -, e⟩ | ⟨b', e, h2⟩ | ⟨L, U, x, e, -⟩ | ⟨A', e, h2, h3⟩
    · injection e with e; exact absurd e (by decide)
    · simp only [Value.iface.injEq, Value.agg.injEq, Array.mk.injEq, List.cons.injEq, Value.pointer.injEq, Option.some.injEq, Addr.mk.injEq, and_true, true_and] at e
      subst e
      exact ih T h2
    · injection e with e; exact absurd e (by decide)
    · injection e with e; exact absurd e (by decide)
  | loop L U x r hb h ih =>
    intro T hT
    have hw := hT.w
    rcases hT.cases with ⟨-, -, e⟩ | ⟨b', e, h2⟩ | ⟨L', U', x', e, h4, hb', h2⟩ | ⟨A', e, h2, h3⟩
    · injection e with e; exact absurd e (by decide)
    · injection e with e; exact absurd e (by decide)
    · simp only [Value.iface.injEq, Value.pointer.injEq, Option.some.injEq, Addr.mk.injEq, and_true, true_and] at e
      subst e
      have e2 := hb.one hb'
      simp only [Array.mk.injEq, List.cons.injEq, Value.iface.injEq, and_true] at e2
      obtain ⟨rfl, rfl⟩ := e2
      rw [unf_rec hw h4]
      exact ih _ h2
    · injection e with e; exact absurd e (by decide)

/-- A linked value unfolds to something, in at most 2 * m + 1 steps. -/
theorem Rep.unfTo {w : World} {bs : List Nat} : ∀ (m : Nat) (v : Value) (T : Nd), Rep w bs v T → (iter m T).k ≠ 4 → ∃ r, UnfTo w v r
  | m, v, T, h, hm => by
    have hw := h.w
    rcases h.cases with ⟨h1, h2, rfl⟩ | ⟨b, rfl, h2⟩ | ⟨L, U, x, rfl, h4, hb, h2⟩ | ⟨A, rfl, -⟩
    · exact ⟨_, .fin⟩
    · rcases h2.cases with ⟨-, -, e⟩ | ⟨b', e, -⟩ | ⟨L, U, x, e, h4, hb, h3⟩ | ⟨A, e, -⟩
      · injection e with e; exact absurd e (by decide)
      · injection e with e; exact absurd e (by decide)
      · cases m with
        | zero => exact absurd h4 hm
        | succ m =>
          unfold iter at hm
          rw [if_pos h4] at hm
          obtain ⟨r, hr⟩ := Rep.unfTo m _ _ h3 hm
          simp only [Value.iface.injEq, Value.pointer.injEq, Option.some.injEq, Addr.mk.injEq, and_true, true_and] at e
          subst e
          exact ⟨r, .var _ r (.loop _ U x r hb hr)⟩
      · injection e with e; exact absurd e (by decide)
    · cases m with
      | zero => exact absurd h4 hm
      | succ m =>
        unfold iter at hm
        rw [if_pos h4] at hm
        obtain ⟨r, hr⟩ := Rep.unfTo m _ _ h2 hm
        exact ⟨r, .loop L U x r hb hr⟩
    · exact ⟨_, .act A⟩
end Go.Proofs.YtfppglfajbmapaaDoor.Lo

/- The comparison of two linked types by a list of pairs: what holds between its rounds. -/
namespace Go.Proofs.YtfppglfajbmapaaDoor.Lo
open Go.RowKit

/-! ### Labels ascend, so each names one branch -/
theorem blt_trans : ∀ a b c : List UInt8, Op.bytesLess a b = true → Op.bytesLess b c = true → Op.bytesLess a c = true
  | _, [], _, h, _ => by cases ‹List UInt8› <;> simp [Op.bytesLess] at h
  | [], _ :: _, [], _, h => by simp [Op.bytesLess] at h
  | [], _ :: _, _ :: _, _, _ => by simp [Op.bytesLess]
  | _ :: _, _ :: _, [], _, h => by simp [Op.bytesLess] at h
  | x :: a, y :: b, z :: c, h1, h2 => by
    simp only [Op.bytesLess] at h1 h2 ⊢
    have ih := blt_trans a b c
    have ex : ∀ u v : UInt8, u < v ↔ u.toNat < v.toNat := fun u v => UInt8.lt_iff_toNat_lt
    have ey : ∀ u v : UInt8, u = v ↔ u.toNat = v.toNat := fun u v => ⟨fun h => by rw [h], fun h => UInt8.toNat_inj.1 h⟩
    simp only [Bool.or_eq_true, Bool.and_eq_true, decide_eq_true_eq, beq_iff_eq, ex, ey] at h1 h2 ⊢
    rcases h1 with h1 | ⟨h1, h1'⟩ <;> rcases h2 with h2 | ⟨h2, h2'⟩
    · exact Or.inl (by omega)
    · exact Or.inl (by omega)
    · exact Or.inl (by omega)
    · exact Or.inr ⟨by omega, ih h1' h2'⟩
theorem blt_irrefl : ∀ a : List UInt8, Op.bytesLess a a = false
  | [] => rfl
  | x :: a => by
    simp only [Op.bytesLess, blt_irrefl a]
    simp
theorem asc_br : ∀ (f : F) (q : ByteArray) (l : List UInt8), ascB (some q) f = true → (brF f l).isSome = true → Op.bytesLess q.toList l = true
  | .nil, _, _, _, h => by simp [brF] at h
  | .cons lab k fr ix kids rest, q, l, ha, h => by
    simp only [ascB, Bool.and_eq_true] at ha
    obtain ⟨⟨-, h1⟩, h2⟩ := ha
    unfold brF at h
    split at h
    · rename_i e
      rw [← e]; exact h1
    · exact blt_trans _ _ _ h1 (asc_br rest lab l h2 h)

/-- The pairs that follow the labels that both rows have. -/
def pairsF : List Value → List Value → List (Value × Value)
  | .string lab :: v :: rest, ys => (match valF ys lab.toList with | some v' => [(v, v')] | none => []) ++ pairsF rest ys
  | _, _ => []
theorem pairs_in : ∀ (xs ys : List Value) (l : List UInt8) (v v' : Value), valF xs l = some v → valF ys l = some v' → (v, v') ∈ pairsF xs ys
  | [], ys, l, v, v', h, _ => by simp [valF] at h
  | [x], ys, l, v, v', h, _ => by cases x <;> simp [valF] at h
  | x :: u :: rest, ys, l, v, v', h, h' => by
    cases x with
    | string lab =>
      unfold valF at h
      unfold pairsF
      by_cases e : lab.toList = l
      · rw [if_pos e] at h
        cases h
        rw [e, h']
        simp
      · rw [if_neg e] at h
        exact List.mem_append_right _ (pairs_in rest ys l v v' h h')
    | _ => simp [valF] at h
theorem pairs_br {w : World} {bs : List Nat} : ∀ (f : F) (xs ys : List Value) (q : Option ByteArray), RepF w bs f xs → ascB q f = true → ∀ v v', (v, v') ∈ pairsF xs ys → ∃ l u, brF f l = some u ∧ Rep w bs v u ∧ valF ys l = some v'
  | .nil, xs, ys, _, h, _, v, v', hm => by
    have e : xs = [] := h
    subst e
    simp [pairsF] at hm
  | .cons lab k fr ix kids rest, xs, ys, q, h, ha, v, v', hm => by
    obtain ⟨u, zs, rfl, h1, h2⟩ := h
    simp only [ascB, Bool.and_eq_true] at ha
    unfold pairsF at hm
    rcases List.mem_append.1 hm with hm | hm
    · cases hv : valF ys lab.toList with
      | none => rw [hv] at hm; simp at hm
      | some x =>
        rw [hv] at hm
        simp only [List.mem_singleton, Prod.mk.injEq] at hm
        obtain ⟨rfl, rfl⟩ := hm
        exact ⟨lab.toList, _, by unfold brF; rw [if_pos rfl], h1, hv⟩
    · obtain ⟨l, t, e1, e2, e3⟩ := pairs_br rest zs ys (some lab) h2 ha.2 v v' hm
      refine ⟨l, t, ?_, e2, e3⟩
      unfold brF
      rw [if_neg]
      · exact e1
      · rintro rfl
        have := asc_br rest lab _ ha.2 (by rw [e1]; rfl)
        rw [blt_irrefl] at this
        cases this
theorem pairs_len : ∀ (n : Nat) (xs ys : List Value), xs.length ≤ n * 2 → (pairsF xs ys).length ≤ n
  | n, [], ys, _ => by simp [pairsF]
  | n, [x], ys, _ => by cases x <;> simp [pairsF]
  | n, x :: u :: rest, ys, h => by
    cases n with
    | zero => simp at h
    | succ n =>
      have := pairs_len n rest ys (by simp only [List.length_cons] at h; omega)
      cases x with
      | string lab =>
        unfold pairsF
        rw [List.length_append]
        split <;> simp <;> omega
      | _ => simp [pairsF]

/-! ### The pairs -/

/-- A pair of values is settled: it waits, both are finished, or the pair of their actions was seen. -/
def Fine (w : World) (W : List (Value × Value)) (S : List (Nat × Nat)) (v v' : Value) : Prop :=
  (v, v') ∈ W ∨ (UnfTo w v none ∧ UnfTo w v' none) ∨ ∃ A B, UnfTo w v (some A) ∧ UnfTo w v' (some B) ∧ (A, B) ∈ S
/-- A pair of actions that was seen fits, and what follows is settled. -/
def Done (sub : Bool) (w : World) (ks bs : List Nat) (W : List (Value × Value)) (S : List (Nat × Nat)) (e : Nat × Nat) : Prop :=
  ∃ (x y : Nd) (xs ys : List Value), e.1 ∈ ks ∧ e.2 ∈ bs ∧ RowOf w e.1 x.k x.fr xs ∧ RepF w ks x.kids xs ∧ RowOf w e.2 y.k y.fr ys ∧ RepF w bs y.kids ys ∧ fitB sub x y = true ∧
    ∀ l v v', valF xs l = some v → valF ys l = some v' → Fine w W S v v'

theorem Fine.mono {w : World} {W W' : List (Value × Value)} {S S' : List (Nat × Nat)} {v v' : Value} (h : Fine w W S v v') (hW : ∀ p, p ∈ W → Fine w W' S' p.1 p.2) (hS : ∀ e, e ∈ S → e ∈ S') : Fine w W' S' v v' := by
  rcases h with h | h | ⟨A, B, h1, h2, h3⟩
  · exact hW _ h
  · exact Or.inr (Or.inl h)
  · exact Or.inr (Or.inr ⟨A, B, h1, h2, hS _ h3⟩)
theorem Done.mono {sub : Bool} {w : World} {ks bs : List Nat} {W W' : List (Value × Value)} {S S' : List (Nat × Nat)} {e : Nat × Nat} (h : Done sub w ks bs W S e) (hW : ∀ p, p ∈ W → Fine w W' S' p.1 p.2) (hS : ∀ e, e ∈ S → e ∈ S') : Done sub w ks bs W' S' e := by
  obtain ⟨x, y, xs, ys, h1, h2, h3, h4, h5, h6, h7, h8⟩ := h
  exact ⟨x, y, xs, ys, h1, h2, h3, h4, h5, h6, h7, fun l v v' hv hv' => (h8 l v v' hv hv').mono hW hS⟩

/-- If nothing waits, settled pairs are alike. -/
theorem fine_sim {sub : Bool} {w : World} {ks bs : List Nat} {S : List (Nat × Nat)} (hS : ∀ e, e ∈ S → Done sub w ks bs [] S e) : ∀ (n : Nat) (v v' : Value) (T T' : Nd), Rep w ks v T → Rep w bs v' T' → Fine w [] S v v' → Sim sub n T T'
  | 0, _, _, _, _, _, _, _ => trivial
  | n + 1, v, v', T, T', hT, hT', hf => by
    rcases hf with h | ⟨h1, h2⟩ | ⟨A, B, h1, h2, h3⟩
    · simp at h
    · rcases h1.rep T hT with ⟨-, k1, q1⟩ | ⟨_, e, -⟩
      · rcases h2.rep T' hT' with ⟨-, k2, q2⟩ | ⟨_, e, -⟩
        · refine ⟨?_, fun l u u' hu _ => ?_⟩
          · rw [fitB_iff]
            have w1 := unf_w hT.w
            have w2 := unf_w hT'.w
            unfold wN at w1 w2
            simp only [Bool.and_eq_true] at w1 w2
            rw [k1] at w1
            rw [k2] at w2
            refine ⟨by rw [k1, k2], by rw [(shape_end w1.1).1, (shape_end w2.1).1], ?_⟩
            rw [q1, q2]
            simp [subsF]
          · rw [q1] at hu
            simp [brF] at hu
        · cases e
      · cases e
    · rcases h1.rep T hT with ⟨e, -⟩ | ⟨A', e, hk1, -, xs0, r1, f1⟩
      · cases e
      · cases e
        rcases h2.rep T' hT' with ⟨e, -⟩ | ⟨B', e, hk2, -, ys0, r2, f2⟩
        · cases e
        · cases e
          obtain ⟨x, y, xs, ys, m1, m2, r3, f3, r4, f4, hfit, hnext⟩ := hS _ h3
          have hfb := fitB_same sub (w := w) (bs := ks) (bs' := ks) (cs := bs) (cs' := bs) (A := A) (B := B) (x := x) (x' := unf T) (y := y) (y' := unf T') ⟨m1, xs, r3, f3⟩ ⟨m1, xs0, r1, f1⟩ ⟨m2, ys, r4, f4⟩ ⟨m2, ys0, r2, f2⟩
          obtain ⟨-, -, rfl⟩ := r1.one r3
          obtain ⟨-, -, rfl⟩ := r2.one r4
          refine ⟨by rw [← hfb]; exact hfit, fun l u u' hu hu' => ?_⟩
          rcases f1.br l with ⟨e1, -⟩ | ⟨u0, p, e1, e2, e3⟩
          · rw [hu] at e1; cases e1
          · rw [hu] at e1; cases e1
            rcases f2.br l with ⟨e4, -⟩ | ⟨u1, p', e4, e5, e6⟩
            · rw [hu'] at e4; cases e4
            · rw [hu'] at e4; cases e4
              exact fine_sim hS n p p' _ _ e3 e6 (hnext l p p' e2 e5)

/-- What holds between two rounds of the comparison. -/
structure Cmp (sub : Bool) (w : World) (ks bs : List Nat) (va vb : Value) (root : Bool) (W : List (Value × Value)) (S : List (Nat × Nat)) : Prop where
  need : root = true → ∀ p, p ∈ W → ∃ T T', Rep w ks p.1 T ∧ Rep w bs p.2 T' ∧ Like sub T T'
  reps : ∀ p, p ∈ W → (∃ T, Rep w ks p.1 T) ∧ ∃ T, Rep w bs p.2 T
  seen : ∀ e, e ∈ S → Done sub w ks bs W S e
  start : Fine w W S va vb
  nodup : S.Nodup

theorem Cmp.begin {sub : Bool} {w : World} {ks bs : List Nat} {va vb : Value} {a b : Nd} (ha : Rep w ks va a) (hb : Rep w bs vb b) : Cmp sub w ks bs va vb (alikeB sub a b) [(va, vb)] [] where
  need h p hp := by
    rw [List.mem_singleton] at hp
    subst hp
    exact ⟨a, b, ha, hb, (alikeB_iff _ _ _).1 h⟩
  reps p hp := by
    rw [List.mem_singleton] at hp
    subst hp
    exact ⟨⟨a, ha⟩, ⟨b, hb⟩⟩
  seen e he := by simp at he
  start := Or.inl (by simp)
  nodup := List.nodup_nil
theorem Cmp.done {sub : Bool} {w : World} {ks bs : List Nat} {va vb : Value} {a b : Nd} {S : List (Nat × Nat)} (h : Cmp sub w ks bs va vb (alikeB sub a b) [] S) (ha : Rep w ks va a) (hb : Rep w bs vb b) : alikeB sub a b = true :=
  (alikeB_iff _ _ _).2 fun n => fine_sim h.seen n va vb a b ha hb h.start

section
variable {sub root : Bool} {w : World} {ks bs : List Nat} {va vb v v' : Value} {W : List (Value × Value)} {S : List (Nat × Nat)}

/-- The last pair is settled already. -/
theorem Cmp.pop (h : Cmp sub w ks bs va vb root (W ++ [(v, v')]) S) (hf : Fine w W S v v') : Cmp sub w ks bs va vb root W S := by
  have hW : ∀ p, p ∈ W ++ [(v, v')] → Fine w W S p.1 p.2 := fun p hp => by
    rcases List.mem_append.1 hp with hp | hp
    · exact Or.inl hp
    · rw [List.mem_singleton] at hp
      subst hp
      exact hf
  exact ⟨fun hr p hp => h.need hr p (by simp [hp]), fun p hp => h.reps p (by simp [hp]), fun e he => (h.seen e he).mono hW (fun _ h => h), h.start.mono hW (fun _ h => h), h.nodup⟩

/-- The last pair's roots do not fit. -/
theorem Cmp.no (h : Cmp sub w ks bs va vb root (W ++ [(v, v')]) S) (hf : ∀ T T', Rep w ks v T → Rep w bs v' T' → fitB sub (unf T) (unf T') = false) : root = false := by
  cases hr : root with
  | false => rfl
  | true =>
    obtain ⟨T, T', h1, h2, h3⟩ := h.need hr (v, v') (by simp)
    have := (Like.step.1 h3).1
    rw [hf T T' h1 h2] at this
    cases this

/-- The last pair's roots fit: what follows their common labels waits. -/
theorem Cmp.push {A B : Nat} {xs ys : List Value} {x y : Nd} (h : Cmp sub w ks bs va vb root (W ++ [(v, v')]) S) (hv : UnfTo w v (some A)) (hv' : UnfTo w v' (some B)) (hn : (A, B) ∉ S) (hA : A ∈ ks) (hB : B ∈ bs)
    (r1 : RowOf w A x.k x.fr xs) (f1 : RepF w ks x.kids xs) (r2 : RowOf w B y.k y.fr ys) (f2 : RepF w bs y.kids ys) (hfit : fitB sub x y = true) :
    Cmp sub w ks bs va vb root (W ++ pairsF xs ys) (S ++ [(A, B)]) := by
  have hW : ∀ p, p ∈ W ++ [(v, v')] → Fine w (W ++ pairsF xs ys) (S ++ [(A, B)]) p.1 p.2 := fun p hp => by
    rcases List.mem_append.1 hp with hp | hp
    · exact Or.inl (by simp [hp])
    · rw [List.mem_singleton] at hp
      subst hp
      exact Or.inr (Or.inr ⟨A, B, hv, hv', by simp⟩)
  have hS : ∀ e, e ∈ S → e ∈ S ++ [(A, B)] := fun e he => by simp [he]
  obtain ⟨⟨T0, hT0⟩, ⟨T1, hT1⟩⟩ := h.reps (v, v') (by simp)
  have hasc : ∀ {v : Value} {T : Nd} {cs : List Nat} {A : Nat} {zs : List Value}, Rep w cs v T → UnfTo w v (some A) → RepF w cs (unf T).kids zs → ascB none (unf T).kids = true := by
    intro v T cs A zs hT hu _
    have hw := unf_w hT.w
    rcases hu.rep T hT with ⟨e, -⟩ | ⟨A', -, hk, -⟩
    · cases e
    · unfold wN at hw
      simp only [Bool.and_eq_true] at hw
      have := (shape_act hk hw.1).2.2
      unfold branchesB at this
      simp only [Bool.and_eq_true] at this
      exact this.1
  refine ⟨fun hr p hp => ?_, fun p hp => ?_, fun e he => ?_, h.start.mono hW hS, ?_⟩
  · rcases List.mem_append.1 hp with hp | hp
    · exact h.need hr p (by simp [hp])
    · obtain ⟨T, T', h1, h2, h3⟩ := h.need hr (v, v') (by simp)
      simp only at h1 h2
      rcases hv.rep T h1 with ⟨e, -⟩ | ⟨A', e, -, -, xs0, q1, g1⟩
      · cases e
      · cases e
        rcases hv'.rep T' h2 with ⟨e, -⟩ | ⟨B', e, -, -, ys0, q2, g2⟩
        · cases e
        · cases e
          obtain ⟨-, -, rfl⟩ := q1.one r1
          obtain ⟨-, -, rfl⟩ := q2.one r2
          obtain ⟨l, u, e1, e2, e3⟩ := pairs_br _ _ _ none g1 (hasc h1 hv g1) p.1 p.2 hp
          rcases g2.br l with ⟨-, e4⟩ | ⟨u', p', e4, e5, e6⟩
          · rw [e3] at e4; cases e4
          · rw [e3] at e5; cases e5
            exact ⟨u, u', e2, e6, (Like.step.1 h3).2 l u u' e1 e4⟩
  · rcases List.mem_append.1 hp with hp | hp
    · exact h.reps p (by simp [hp])
    · rcases hv.rep T0 hT0 with ⟨e, -⟩ | ⟨A', e, -, -, xs0, q1, g1⟩
      · cases e
      · cases e
        obtain ⟨-, -, rfl⟩ := q1.one r1
        obtain ⟨l, u, e1, e2, e3⟩ := pairs_br _ _ _ none g1 (hasc hT0 hv g1) p.1 p.2 hp
        rcases f2.br l with ⟨-, e4⟩ | ⟨u', p', e4, e5, e6⟩
        · rw [e3] at e4; cases e4
        · rw [e3] at e5; cases e5
          exact ⟨⟨u, e2⟩, ⟨u', e6⟩⟩
  · rcases List.mem_append.1 he with he | he
    · exact (h.seen e he).mono hW hS
    · rw [List.mem_singleton] at he
      subst he
      exact ⟨x, y, xs, ys, hA, hB, r1, f1, r2, f2, hfit, fun l p p' hp hp' => Or.inl (List.mem_append_right _ (pairs_in xs ys l p p' hp hp'))⟩
  · exact List.nodup_append.2 ⟨h.nodup, by simp, fun a ha b hb => by rw [List.mem_singleton] at hb; rintro rfl; rw [hb] at ha; exact hn ha⟩
end

/-! ### How many pairs there are -/
theorem len_nodup {α : Type} [DecidableEq α] : ∀ (S L : List α), S.Nodup → (∀ x, x ∈ S → x ∈ L) → S.length ≤ L.length
  | [], L, _, _ => Nat.zero_le _
  | a :: S, L, hn, hs => by
    rw [List.nodup_cons] at hn
    have ha := hs a (by simp)
    have h := len_nodup S (L.erase a) hn.2 (fun x hx => (List.mem_erase_of_ne (by rintro rfl; exact hn.1 hx)).2 (hs x (by simp [hx])))
    rw [List.length_erase_of_mem ha] at h
    have : 0 < L.length := List.length_pos_of_mem ha
    simp only [List.length_cons]
    omega
def prodL (ks bs : List Nat) : List (Nat × Nat) := ks.flatMap fun a => bs.map fun b => (a, b)
theorem prodL_len : ∀ (ks bs : List Nat), (prodL ks bs).length = ks.length * bs.length
  | [], bs => by simp [prodL]
  | a :: ks, bs => by
    have := prodL_len ks bs
    simp only [prodL] at this ⊢
    simp only [List.flatMap_cons, List.length_append, List.length_map, List.length_cons, this, Nat.succ_mul]
    omega
theorem Cmp.bound {sub root : Bool} {w : World} {ks bs : List Nat} {va vb : Value} {W : List (Value × Value)} {S : List (Nat × Nat)} (h : Cmp sub w ks bs va vb root W S) : S.length ≤ ks.length * bs.length := by
  rw [← prodL_len]
  refine len_nodup S _ h.nodup (fun e he => ?_)
  obtain ⟨x, y, xs, ys, h1, h2, -⟩ := h.seen e he
  exact List.mem_flatMap.2 ⟨e.1, h1, List.mem_map.2 ⟨e.2, h2, rfl⟩⟩
end Go.Proofs.YtfppglfajbmapaaDoor.Lo

/- The small functions of the comparison of local types: next, covers, the two ways to fit, unfoldLinked from any linked value. -/
namespace Go.Proofs.YtfppglfajbmapaaDoor.Lo
open Go.RowKit

theorem RepF.next {w : World} {bs : List Nat} {lab : ByteArray} {k : Int} {fr : ByteArray} {ix : Int} {kids rest : F} {xs : List Value} {r n i : Nat} {cs : Array Value}
    (h : RepF w bs (.cons lab k fr ix kids rest) (xs.drop (i * 2))) (hr : Blk w r cs) (hx : cs.toList.take (n * 2) = xs) :
    ∃ U x, w.cell? ⟨r, i * 2, none⟩ = some (.string lab) ∧ w.cell? ⟨r, i * 2 + 1, none⟩ = some (.iface U x) ∧ Rep w bs (.iface U x) ⟨k, fr, ix, kids⟩ ∧ RepF w bs rest (xs.drop ((i + 1) * 2)) ∧ xs.drop (i * 2) = .string lab :: .iface U x :: xs.drop ((i + 1) * 2) := by
  obtain ⟨v, ys, e, hn, hrest⟩ := h
  obtain ⟨U, x, rfl⟩ := hn.val
  have g : ∀ j, xs[i * 2 + j]? = (Value.string lab :: Value.iface U x :: ys)[j]? := fun j => by rw [← e, List.getElem?_drop]
  have cc : ∀ j v, xs[j]? = some v → w.cell? ⟨r, j, none⟩ = some v := fun j v h => by
    rw [hr.cell j]
    rw [← hx, List.getElem?_take] at h
    split at h
    · simpa using h
    · cases h
  have e2 : xs.drop ((i + 1) * 2) = ys := by
    rw [show (i + 1) * 2 = i * 2 + 2 by omega, ← List.drop_drop, e]
    rfl
  refine ⟨U, x, cc _ _ (g 0), cc _ _ (g 1), hn, by rw [e2]; exact hrest, by rw [e2]; exact e⟩
theorem RepF.len {w : World} {bs : List Nat} : ∀ (f : F) (xs : List Value), RepF w bs f xs → xs.length = f.len * 2
  | .nil, xs, h => by
    have e : xs = [] := h
    subst e
    rfl
  | .cons lab k fr ix kids rest, xs, h => by
    obtain ⟨v, ys, rfl, -, h2⟩ := h
    have := RepF.len rest ys h2
    simp only [List.length_cons, F.len]
    omega

set_option maxHeartbeats 2000000 in
set_option maxRecDepth 100000 in
/-- next of the program: what follows a label, or nil. -/
theorem next_calls (w0 w : World) (bs : List Nat) (A : Nat) (x : Nd) (xs : List Value) (s : ByteArray) (hr : RowOf w0 A x.k x.fr xs) (hf : RepF w0 bs x.kids xs) (hB : Below w0.heap.size w0 w) :
    Calls Tryd.prog 103 #[.pointer (some ⟨A, 0, none⟩), .string s] w fun e w' => e = .returned ((valF xs s.toList).getD .nilIface) ∧ Below w.heap.size w w' := by
  obtain ⟨r, n, cap, cs, hA, hn1, hn2, hcs, hx, hxl⟩ := hr
  have hk := RepF.len _ _ hf
  have hA1 := hA.below hB
  have a2 : w.cell? ⟨A, 2, none⟩ = some (.slice (some ⟨r, 0, none⟩) n cap) := hA1.cell 2
  have al := hA1.lt
  have hnl : n ≤ 9223372036854775807 := by unfold maxLen at hn2; omega
  have HB := hide hB
  have HCS := hide hcs
  have HX := hide hx
  have HST : Hid (RepF w0 bs x.kids (xs.drop (0 * 2)) ∧ 0 + x.kids.len = n) := hide ⟨by simpa using hf, by omega⟩
  have HXL := hide hxl
  clear hA hn2 hcs hx hxl hA1 hB hf hk
  go_enter Tryd.func103, Tryd.ntmps103
  go_wp2_with fail
  go_loopw [12] (fun iv wr => ∃ (g : F) (i : Nat), i + g.len = n ∧ iv = .int .i64 i ∧ RepF w0 bs g (xs.drop (i * 2)) ∧ valF xs s.toList = valF (xs.drop (i * 2)) s.toList ∧ Below w.heap.size w wr) (fun iv _ => n - (intOf iv).toNat)
  case atStart => exact ⟨x.kids, 0, HST.out.2, rfl, HST.out.1, by simp, Below.refl _ _⟩
  case round =>
    obtain ⟨g, i, hi, rfl, hg, hv, hb⟩ := hrel
    clear HST
    cases g with
    | nil =>
      have hge : n ≤ i := by simp [F.len] at hi; omega
      have hnone : (valF xs s.toList).getD .nilIface = .nilIface := by
        rw [hv]
        have e : xs.drop (i * 2) = [] := hg
        rw [e]
        rfl
      have HNO := hide hnone
      clear hi hg hv hnone
      go_wp2_with fail
      go_ret
      exact ⟨by rw [HNO.out]; rfl, hb⟩
    | cons lab k fr ix kids rest =>
      obtain ⟨U, v, q0, q1, hrep, hrest, hdr⟩ := hg.next HCS.out HX.out
      have hlt : i < n := by simp only [F.len] at hi; omega
      have hst := Still.of_below (HB.out.trans (hb.mono HB.out.size))
      have d0 := hst _ _ q0
      have d1 := hst _ _ q1
      have dl := World.block_lt_of_cell? _ _ d0
      have HV := hide (And.intro hi (And.intro hv (And.intro hrest hdr)))
      clear hi hg hv hrep hrest hdr hst q0 q1
      cases hl : (lab.toList == s.toList) with
      | true =>
        have hl3 : lab.toList = s.toList := by simpa using hl
        have hres : (valF xs s.toList).getD .nilIface = .iface U v := by
          rw [HV.out.2.1, HV.out.2.2.2]
          unfold valF
          rw [if_pos hl3]
          rfl
        have HRES := hide hres
        clear hres
        go_wp2_with fail
        go_ret
        exact ⟨by rw [HRES.out]; rfl, hb.alloc hb.size _⟩
      | false =>
        have hl3 : ¬ lab.toList = s.toList := by simpa using hl
        have hres : valF xs s.toList = valF (xs.drop ((i + 1) * 2)) s.toList := by
          rw [HV.out.2.1, HV.out.2.2.2]
          conv => lhs; unfold valF
          rw [if_neg hl3]
        have HRES := hide hres
        clear hres
        go_wp2_with fail
        refine ⟨⟨rest, i + 1, by have := HV.out.1; simp only [F.len] at this; omega, by go_num, HV.out.2.2.1, HRES.out, hb.alloc hb.size _⟩, by simp [intOf]; omega⟩

/-- Whether a row has all the labels of a list. -/
theorem val_some {w : World} {bs : List Nat} {f : F} {xs : List Value} (h : RepF w bs f xs) (l : List UInt8) : (∃ U v, (valF xs l).getD .nilIface = .iface U v ∧ (brF f l).isSome = true) ∨ ((valF xs l).getD .nilIface = .nilIface ∧ (brF f l).isSome = false) := by
  rcases h.br l with ⟨e1, e2⟩ | ⟨u, v, e1, e2, e3⟩
  · right
    rw [e1, e2]
    exact ⟨rfl, rfl⟩
  · left
    obtain ⟨U, y, rfl⟩ := e3.val
    rw [e1, e2]
    exact ⟨U, y, rfl, rfl⟩

set_option maxHeartbeats 2000000 in
set_option maxRecDepth 100000 in
/-- covers of the program: whether x has all the labels of y. -/
theorem covers_calls (w0 w : World) (ks bs : List Nat) (A B : Nat) (x y : Nd) (hx : Act w0 ks A x) (hy : Act w0 bs B y) (hB : Below w0.heap.size w0 w) :
    Calls Tryd.prog 58 #[.pointer (some ⟨A, 0, none⟩), .pointer (some ⟨B, 0, none⟩)] w fun e w' => e = .returned (.bool (subsF y.kids x.kids)) ∧ Below w.heap.size w w' := by
  obtain ⟨-, xs, hxr, hxf⟩ := hx
  obtain ⟨-, ys, hyr, hyf⟩ := hy
  have HN := hide (fun (w : World) (s : ByteArray) (hB : Below w0.heap.size w0 w) => next_calls w0 w ks A x xs s hxr hxf hB)
  have HXF := hide hxf
  obtain ⟨r, n, cap, cs, hA, hn1, hn2, hcs, hx, hxl⟩ := hyr
  have hk := RepF.len _ _ hyf
  have hA1 := hA.below hB
  have a2 : w.cell? ⟨B, 2, none⟩ = some (.slice (some ⟨r, 0, none⟩) n cap) := hA1.cell 2
  have al := hA1.lt
  have hnl : n ≤ 9223372036854775807 := by unfold maxLen at hn2; omega
  have HB := hide hB
  have HCS := hide hcs
  have HX := hide hx
  have HST : Hid (RepF w0 bs y.kids (ys.drop (0 * 2)) ∧ 0 + y.kids.len = n) := hide ⟨by simpa using hyf, by omega⟩
  clear hA hn2 hcs hx hxl hA1 hB hxf hyf hxr hk
  go_enter Tryd.func58, Tryd.ntmps58
  go_wp2_with fail
  go_loopw [12] (fun iv wr => ∃ (g : F) (i : Nat), i + g.len = n ∧ iv = .int .i64 i ∧ RepF w0 bs g (ys.drop (i * 2)) ∧ subsF y.kids x.kids = subsF g x.kids ∧ Below w.heap.size w wr) (fun iv _ => n - (intOf iv).toNat)
  case atStart => exact ⟨y.kids, 0, HST.out.2, rfl, HST.out.1, rfl, Below.refl _ _⟩
  case round =>
    obtain ⟨g, i, hi, rfl, hg, hv, hb⟩ := hrel
    clear HST
    cases g with
    | nil =>
      have hge : n ≤ i := by simp [F.len] at hi; omega
      have HNO := hide hv
      clear hi hg hv
      go_wp2_with fail
      go_ret
      exact ⟨by rw [HNO.out]; rfl, hb⟩
    | cons lab k fr ix kids rest =>
      obtain ⟨U, v, q0, q1, hrep, hrest, hdr⟩ := hg.next HCS.out HX.out
      have hlt : i < n := by simp only [F.len] at hi; omega
      have hbw := HB.out.trans (hb.mono HB.out.size)
      have hst := Still.of_below hbw
      have d0 := hst _ _ q0
      have d1 := hst _ _ q1
      have dl := World.block_lt_of_cell? _ _ d0
      have HV := hide (And.intro hi (And.intro hv hrest))
      have HBW := hide hbw
      clear hi hg hv hrep hrest hdr hst q0 q1 hbw
      go_wp2_with fail
      refine (HN.out _ lab (HBW.out.alloc HBW.out.size _)).mono ?_
      rintro e w2 ⟨rfl, hb2⟩
      have hb3 := hb.trans ((alloc_then hb2).mono hb.size)
      have HB3 := hide hb3
      clear hb2 hb3
      rcases val_some HXF.out lab.toList with ⟨U2, v2, e1, e2⟩ | ⟨e1, e2⟩
      · have hres : subsF y.kids x.kids = subsF rest x.kids := by
          rw [HV.out.2.1]
          conv => lhs; unfold subsF
          rw [e2, Bool.true_and]
        have HRES := hide hres
        rw [e1]
        clear hres e1 e2
        go_wp2_with fail
        refine ⟨⟨rest, i + 1, by have := HV.out.1; simp only [F.len] at this; omega, by go_num, HV.out.2.2, HRES.out, HB3.out⟩, by simp [intOf]; omega⟩
      · have hres : subsF y.kids x.kids = false := by
          rw [HV.out.2.1]
          unfold subsF
          rw [e2, Bool.false_and]
        have HRES := hide hres
        rw [e1]
        clear hres e1 e2
        go_wp2_with fail
        go_ret
        exact ⟨by rw [HRES.out]; rfl, HB3.out⟩

/-- The labels of two roots of one kind and peer, compared ks asked. -/
def labB2 (sub : Bool) (x y : Nd) : Bool := if sub = true then (if x.k = 2 then subsF x.kids y.kids else subsF y.kids x.kids) else subsF x.kids y.kids && subsF y.kids x.kids
theorem fitB_eq (sub : Bool) (x y : Nd) : fitB sub x y = ((x.k == y.k) && ((x.fr.toList == y.fr.toList) && labB2 sub x y)) := rfl

theorem taVarLoop (v : Value) (w : World) : (Instr.typeAssert (.iface ( /- t -/ 196) v) ( /- t -/ 87) ( /- t -/ 194) true).run Tryd.prog w = .ok (.tuple #[.pointer none, .bool false]) w := by kernel_rfl

/-- 1 at a linked variable. -/
def isVar : Value → Nat
  | .iface t _ => if t = ( /- t -/ 196) then 1 else 0
  | _ => 0
theorem isVar_le (v : Value) : isVar v ≤ 1 := by
  unfold isVar
  split
  · split <;> omega
  · omega

/-- What unfoldLinked gives: nothing more, or an action. -/
def UnfPost (w0 : World) (v : Value) (w : World) (e : Ending) (w' : World) : Prop :=
  Below w.heap.size w w' ∧ ((UnfTo w0 v none ∧ e = .returned (.iface ( /- t -/ 193) (.agg #[]))) ∨ ∃ A, UnfTo w0 v (some A) ∧ e = .returned (.iface ( /- t -/ 93) (.pointer (some ⟨A, 0, none⟩))))

set_option maxHeartbeats 2000000 in
set_option maxRecDepth 100000 in
/-- unfoldLinked of the program, from any linked value. -/
theorem unfV_calls (w0 w : World) (bs : List Nat) (v : Value) (T : Nd) (h : Rep w0 bs v T) (hB : Below w0.heap.size w0 w) :
    Calls Tryd.prog 102 #[v] w (UnfPost w0 v w) := by
  have hm : (iter (T.kids.sz + 1) T).k ≠ 4 := by
    rw [← unf_iter h.w]
    exact unf_k h.w
  have HST : Hid (∃ (m : Nat) (T' : Nd), Rep w0 bs v T' ∧ (iter m T').k ≠ 4 ∧ (∀ r, UnfTo w0 v r → UnfTo w0 v r) ∧ 2 * m + 1 ≤ 2 * (T.kids.sz + 1) + 1 ∧ Below w.heap.size w w) :=
    hide ⟨T.kids.sz + 1, T, h, hm, fun r hr => hr, Nat.le_refl _, Below.refl _ _⟩
  have HB := hide hB
  clear h hm hB
  go_enter Tryd.func102, Tryd.ntmps102
  go_wp2_with fail
  go_loopg [0] (2 * (T.kids.sz + 1) + 1) (fun n vv wr => ∃ (m : Nat) (T' : Nd), Rep w0 bs vv T' ∧ (iter m T').k ≠ 4 ∧ (∀ r, UnfTo w0 vv r → UnfTo w0 v r) ∧ 2 * m + isVar vv ≤ n ∧ Below w.heap.size w wr)
  case atStart =>
    obtain ⟨m, T', h1, h2, h3, h4, h5⟩ := HST.out
    exact ⟨m, T', h1, h2, h3, by have := isVar_le v; omega, h5⟩
  case round =>
    obtain ⟨m, T', hrep, hm, hto, hn, hb⟩ := hrel
    clear HST
    rcases hrep.cases with ⟨h1, h2, rfl⟩ | ⟨b, rfl, h2⟩ | ⟨L, U, x, rfl, h4, hbk, h2⟩ | ⟨A, rfl, h2, h3⟩
    · have HE := hide (hto _ .fin)
      have n1 := taEndLoop
      have n2 := taEndVar
      clear hrep hm hto hn h1 h2
      go_wp2_with fail
      go_ret
      exact ⟨hb, Or.inl ⟨HE.out, rfl⟩⟩
    · rw [show ∀ z, isVar (.iface ( /- t -/ 196) z) = 1 from fun _ => rfl] at hn
      obtain ⟨gk', rfl⟩ : ∃ gk', gk = gk' + 1 := ⟨gk - 1, by omega⟩
      have HR : Hid (∃ (m : Nat) (T' : Nd), Rep w0 bs (.iface ( /- t -/ 194) (.pointer (some ⟨b, 0, none⟩))) T' ∧ (iter m T').k ≠ 4 ∧ (∀ r, UnfTo w0 (.iface ( /- t -/ 194) (.pointer (some ⟨b, 0, none⟩))) r → UnfTo w0 v r) ∧ 2 * m + isVar (.iface ( /- t -/ 194) (.pointer (some ⟨b, 0, none⟩))) ≤ gk' ∧ Below w.heap.size w wr) :=
        hide ⟨m, T', h2, hm, fun r hr => hto _ (.var b r hr), by rw [show ∀ z, isVar (.iface ( /- t -/ 194) z) = 0 from fun _ => rfl]; omega, hb⟩
      have n1 := taVarLoop
      have n2 := taVarVar
      clear hrep hm hto hn h2
      go_wp2_with fail
      go_roundg gk'
      case measure => omega
      case rel =>
        obtain ⟨m, T', h1, h2, h3, h4, h5⟩ := HR.out
        exact ⟨m, T', h1, h2, h3, h4, h5.alloc h5.size _⟩
    · rw [show ∀ z, isVar (.iface ( /- t -/ 194) z) = 0 from fun _ => rfl] at hn
      cases m with
      | zero => exact absurd h4 hm
      | succ m =>
        unfold iter at hm
        rw [if_pos h4] at hm
        obtain ⟨gk', rfl⟩ : ∃ gk', gk = gk' + 1 := ⟨gk - 1, by omega⟩
        have HR : Hid (∃ (m : Nat) (T' : Nd), Rep w0 bs (.iface U x) T' ∧ (iter m T').k ≠ 4 ∧ (∀ r, UnfTo w0 (.iface U x) r → UnfTo w0 v r) ∧ 2 * m + isVar (.iface U x) ≤ gk' ∧ Below w.heap.size w wr) :=
          hide ⟨m, once T', h2, hm, fun r hr => hto _ (.loop L U x r hbk hr), by have := isVar_le (.iface U x); omega, hb⟩
        have y0 : wr.cell? ⟨L, 0, none⟩ = some (.iface U x) := ((hbk.below HB.out).below hb).cell 0
        have yl := World.block_lt_of_cell? _ _ y0
        have n1 := taLoopLoop
        clear hrep hm hto hn h2 h4 hbk
        go_wp2_with fail
        go_roundg gk'
        case measure => omega
        case rel => exact HR.out
    · have HE := hide (hto _ (.act A))
      have n1 := taActLoop
      have n2 := taActVar
      clear hrep hm hto hn h2 h3
      go_wp2_with fail
      go_ret
      exact ⟨hb, Or.inr ⟨A, HE.out, rfl⟩⟩
end Go.Proofs.YtfppglfajbmapaaDoor.Lo

/- A set of pairs of actions in a map that the call makes: what a look-up finds, what a store adds. A pair that is asked for may hold nil. -/
namespace Go.Proofs.YtfppglfajbmapaaDoor.Lo
open Go.RowKit

/-- A pointer, or nil. -/
def ptrO : Option Nat → Value
  | none => .pointer none
  | some p => .pointer (some ⟨p, 0, none⟩)
def kyV (x : Option Nat × Option Nat) : Value := .agg #[ptrO x.1, ptrO x.2]
def kyS (e : Nat × Nat) : Option Nat × Option Nat := (some e.1, some e.2)
def kyB (x : Option Nat × Option Nat) (e : Nat × Nat) : Bool := (x.1 == some e.1) && (x.2 == some e.2)
def GoodB (w : World) (b : Nat) : Prop := ∃ cs, Blk w b cs
def GoodK (w : World) (x : Option Nat × Option Nat) : Prop := (∀ p, x.1 = some p → GoodB w p) ∧ ∀ p, x.2 = some p → GoodB w p

theorem actU : Tryd.prog.underlying ( /- t -/ 93) = some (.pointer ( /- t -/ 176)) := by kernel_rfl
theorem pairU : Tryd.prog.underlying ( /- t -/ 173) = some (.array 2 ( /- t -/ 93)) := by kernel_rfl
theorem actI : (Tryd.prog.info? ( /- t -/ 176)).map (fun i => decide (i.size ≠ 0)) = some true := by kernel_rfl
theorem ptrI : (Tryd.prog.info? ( /- t -/ 93)).map (fun i => i.size) = some 1 := by kernel_rfl
theorem mapU : Tryd.prog.underlying ( /- t -/ 168) = some (.map ( /- t -/ 173) ( /- t -/ 4)) := by kernel_rfl
theorem ptrC : Tryd.prog.cellsOf ( /- t -/ 93) = 1 := by kernel_rfl

theorem run_eq_ptrO (w : World) (d : Nat) (x : Option Nat) (b : Nat) (hx : ∀ p, x = some p → GoodB w p) (hb : GoodB w b) :
    (Op.equalIn (d + 1) ( /- t -/ 93) (ptrO x) (.pointer (some ⟨b, 0, none⟩))).run Tryd.prog w = .ok (x == some b) w := by
  obtain ⟨j, hj, hs⟩ : ∃ j, Tryd.prog.info? ( /- t -/ 176) = some j ∧ j.size ≠ 0 := by
    have := actI
    cases h : Tryd.prog.info? ( /- t -/ 176) with
    | none => rw [h] at this; cases this
    | some i => rw [h] at this; exact ⟨i, rfl, by simpa using this⟩
  cases x with
  | none =>
    unfold ptrO
    simp [Op.equalIn, run_underlying actU]
  | some a =>
    obtain ⟨ca, ta, ha⟩ := hx a rfl
    obtain ⟨cb, tb, hb⟩ := hb
    unfold ptrO
    by_cases h : a = b
    · subst h
      simp [Op.equalIn, run_underlying actU, sizeOf, typeInfo, hj, run_sameAddr_same]
    · have hne : (⟨a, 0, none⟩ : Addr) ≠ ⟨b, 0, none⟩ := fun e => h (congrArg Addr.block e)
      simp [Op.equalIn, run_underlying actU, sizeOf, typeInfo, hj, hs, run_sameAddr_other w hne ha hb, h]

theorem kz_equal (w : World) (x : Option Nat × Option Nat) (y : Nat × Nat) (hx : GoodK w x) (hy : GoodB w y.1 ∧ GoodB w y.2) : (Op.equal ( /- t -/ 173) (kyV x) (kyV (kyS y))).run Tryd.prog w = .ok (kyB x y) w := by
  obtain ⟨j, hj⟩ : ∃ j, Tryd.prog.info? ( /- t -/ 93) = some j := by
    have := ptrI
    cases h : Tryd.prog.info? ( /- t -/ 93) with
    | none => rw [h] at this; cases this
    | some i => exact ⟨i, rfl⟩
  have h1 := run_eq_ptrO w 9998 x.1 y.1 hx.1 hy.1
  have h2 := run_eq_ptrO w 9998 x.2 y.2 hx.2 hy.2
  have p0 : ∀ a b : Value, (part ( /- t -/ 93) #[a, b] (0 * 1)).run Tryd.prog w = .ok a w := fun a b => by kernel_rfl
  have p1 : ∀ a b : Value, (part ( /- t -/ 93) #[a, b] (1 * 1)).run Tryd.prog w = .ok b w := fun a b => by kernel_rfl
  unfold Op.equal kyV kyS
  rw [show Op.maxDepth = 9999 + 1 from rfl, run_equalIn_array w 9999 _ _ pairU hj, ptrC, show List.range 2 = [0, 1] from rfl]
  simp only [Op.eqItems, Sem.run_bind, p0, Result.andThen_ok]
  rw [show ptrO (some y.1) = .pointer (some ⟨y.1, 0, none⟩) from rfl, show ptrO (some y.2) = .pointer (some ⟨y.2, 0, none⟩) from rfl]
  rw [show (9999 : Nat) = 9998 + 1 from rfl, h1]
  simp only [Result.andThen_ok]
  unfold kyB
  cases e1 : (x.1 == some y.1) with
  | false => simp
  | true =>
    simp only [Bool.not_true, Bool.false_eq_true, if_false, Sem.run_bind, p1, Result.andThen_ok]
    rw [h2]
    cases e2 : (x.2 == some y.2) <;> simp [Result.andThen]

theorem kz_check (w : World) (x : Option Nat × Option Nat) (em : Bool) : (Instr.checkKey em 10000 ( /- t -/ 173) (kyV x)).run Tryd.prog w = .ok () w := by
  unfold kyV
  cases em <;> kernel_rfl

theorem kz_ask (w : World) (x : Option Nat × Option Nat) (hx : GoodK w x) : ∀ (es : List MapEntry) (S : List (Nat × Nat)) (i : Nat), es.map (·.key) = S.map (fun e => kyV (kyS e)) → (∀ y ∈ S, GoodB w y.1 ∧ GoodB w y.2) → (∀ e ∈ es, e.val = .bool true) →
    ∃ r, (Instr.findAsking ( /- t -/ 173) (kyV x) es i).run Tryd.prog w = .ok r w ∧ ((r = none ∧ S.any (kyB x) = false) ∨ (∃ j, r = some (j, .bool true) ∧ S.any (kyB x) = true)) := by
  intro es
  induction es with
  | nil =>
    intro S i he _ _
    cases S with
    | nil => exact ⟨none, by simp [Instr.findAsking], Or.inl ⟨rfl, rfl⟩⟩
    | cons => simp at he
  | cons e es ih =>
    intro S i he hS hv
    cases S with
    | nil => simp at he
    | cons y S =>
      simp only [List.map_cons, List.cons.injEq] at he
      obtain ⟨he1, he2⟩ := he
      obtain ⟨r, hr, hc⟩ := ih S (i + 1) he2 (fun z hz => hS z (by simp [hz])) (fun z hz => hv z (by simp [hz]))
      have hq := kz_equal w x y hx (hS y (by simp))
      rw [← he1] at hq
      cases hb : kyB x y with
      | true => exact ⟨some (i, .bool true), by simp [Instr.findAsking, hq, hb, Result.andThen, hv e (by simp)], Or.inr ⟨i, rfl, by simp [hb]⟩⟩
      | false => exact ⟨r, by simp [Instr.findAsking, hq, hb, Result.andThen, hr], by simpa [hb] using hc⟩

theorem kz_find (w : World) (x : Option Nat × Option Nat) (hx : GoodK w x) (es : List MapEntry) (S : List (Nat × Nat)) (he : es.map (·.key) = S.map (fun e => kyV (kyS e))) (hS : ∀ y ∈ S, GoodB w y.1 ∧ GoodB w y.2) (hv : ∀ e ∈ es, e.val = .bool true) :
    ∃ r, (Instr.findKey ( /- t -/ 173) (kyV x) es).run Tryd.prog w = .ok r w ∧ ((r = none ∧ S.any (kyB x) = false) ∨ (∃ j, r = some (j, .bool true) ∧ S.any (kyB x) = true)) := by
  obtain ⟨r, hr, hc⟩ := kz_ask w x hx es S 0 he hS hv
  cases es with
  | nil =>
    cases S with
    | nil => exact ⟨none, by simp [Instr.findKey, run_underlying pairU, Instr.findNow], Or.inl ⟨rfl, rfl⟩⟩
    | cons => simp at he
  | cons e es =>
    refine ⟨r, ?_, hc⟩
    cases S with
    | nil => simp at he
    | cons y S =>
      have h0 : Instr.findNow (.array 2 ( /- t -/ 93)) (kyV x) (e :: es) 0 = none := by
        simp only [Instr.findNow, Instr.sameNow]
      simp [Instr.findKey, run_underlying pairU, h0, hr]

/-- Block m is a map from pairs to true whose keys are these. -/
def SetIs (w : World) (m : Nat) (S : List (Nat × Nat)) : Prop := ∃ es clock, w.heap[m]? = some (.map es clock) ∧ es.toList.map (·.key) = S.map (fun e => kyV (kyS e)) ∧ ∀ e ∈ es.toList, e.val = .bool true
theorem SetIs.same {w w' : World} {m : Nat} {S : List (Nat × Nat)} (h : SetIs w m S) (e : w'.heap[m]? = w.heap[m]?) : SetIs w' m S := by
  obtain ⟨es, clock, h1, h2⟩ := h
  exact ⟨es, clock, e.trans h1, h2⟩
theorem SetIs.lt {w : World} {m : Nat} {S : List (Nat × Nat)} (h : SetIs w m S) : m < w.heap.size := by
  obtain ⟨es, clock, h1, h2⟩ := h
  exact (Array.getElem?_eq_some_iff.1 h1).1
theorem SetIs.made (w : World) : SetIs (w.alloc (.map #[] 0)) w.heap.size [] := ⟨#[], 0, (MapKept.heap_alloc w _).1, rfl, by simp⟩

theorem set_look {w : World} {m : Nat} {S : List (Nat × Nat)} (h : SetIs w m S) (x : Option Nat × Option Nat) (hx : GoodK w x) (hS : ∀ y ∈ S, GoodB w y.1 ∧ GoodB w y.2) :
    (Instr.lookup ( /- t -/ 168) (.map (some m)) (kyV x) false).run Tryd.prog w = .ok (.bool (S.any (kyB x))) w := by
  obtain ⟨es, clock, h1, h2, h3⟩ := h
  obtain ⟨r, hr, hc⟩ := kz_find w x hx es.toList S h2 hS h3
  have hz : (zeroValue ( /- t -/ 4)).run Tryd.prog w = .ok (.bool false) w := by kernel_rfl
  rcases hc with ⟨rfl, hs⟩ | ⟨j, rfl, hs⟩
  · simp [Instr.lookup, run_underlying mapU, MapKept.run_getObj_map h1, kz_check, hr, hz, hs, Result.andThen]
  · simp [Instr.lookup, run_underlying mapU, MapKept.run_getObj_map h1, kz_check, hr, hs, Result.andThen]

theorem set_store {w : World} {m : Nat} {S : List (Nat × Nat)} (h : SetIs w m S) (x : Nat × Nat) (hx : GoodB w x.1 ∧ GoodB w x.2) (hS : ∀ y ∈ S, GoodB w y.1 ∧ GoodB w y.2) (hn : S.any (kyB (kyS x)) = false) :
    ∃ w', (Instr.mapUpdate ( /- t -/ 168) (.map (some m)) (kyV (kyS x)) (.bool true)).run Tryd.prog w = .ok () w' ∧ SetIs w' m (S ++ [x]) ∧ w.grownBy w' (some m) := by
  obtain ⟨es, clock, h1, h2, h3⟩ := h
  have hk : GoodK w (kyS x) := ⟨fun p e => by cases e; exact hx.1, fun p e => by cases e; exact hx.2⟩
  obtain ⟨r, hr, hc⟩ := kz_find w (kyS x) hk es.toList S h2 hS h3
  rcases hc with ⟨rfl, _⟩ | ⟨j, rfl, hs⟩
  · refine ⟨ChangeMaps.setBlock w m (.map (es.push ⟨kyV (kyS x), .bool true, clock⟩) (clock + 1)), ?_, ?_, ?_⟩
    · simp [Instr.mapUpdate, run_underlying mapU, MapKept.run_getObj_map h1, kz_check, hr, MapKept.run_setObj_map _ h1, Result.andThen, ChangeMaps.setBlock]
    · exact ⟨_, _, ChangeMaps.heap_setBlock_same h1 _, by simp [h2], fun e he => by
        simp only [Array.toList_push, List.mem_append, List.mem_singleton] at he
        rcases he with he | rfl
        · exact h3 e he
        · rfl⟩
    · exact ⟨rfl, rfl, rfl, by simp [ChangeMaps.setBlock], fun k _ hk => ChangeMaps.heap_setBlock_other h1 _ (fun e => hk (by rw [e]))⟩
  · rw [hn] at hs
    cases hs

theorem wpList_set_store (w : World) {ops : Array Oper} {rest : List Oper} {o : Oper} {a : Go.Act} {Q : Exit → Go.Act → World → Prop}
    (hg : o.guard = none) (mo xo vo : Operand) (hop : o.op = Op.mapUpdate ( /- t -/ 168) mo xo vo) (m : Nat) (S : List (Nat × Nat)) (h : SetIs w m S) (x : Nat × Nat) (hx : GoodB w x.1 ∧ GoodB w x.2) (hS : ∀ y ∈ S, GoodB w y.1 ∧ GoodB w y.2) (hn : S.any (kyB (kyS x)) = false)
    (hm : a.eval mo = .map (some m)) (hk : a.eval xo = kyV (kyS x)) (hv : a.eval vo = .bool true) (hK : ∀ w', SetIs w' m (S ++ [x]) → w.grownBy w' (some m) → wpList Tryd.prog ops Q rest (a.put o.dst undef) w') : wpList Tryd.prog ops Q (o :: rest) a w := by
  refine wpList_plain hg fun K' hK' => ?_
  obtain ⟨w', hrun, r1, r2⟩ := set_store h x hx hS hn
  unfold Oper.wp
  simp [execOp, hop, hm, hk, hv, hrun, Result.andThen]
  exact hK' _ _ (hK w' r1 r2)
end Go.Proofs.YtfppglfajbmapaaDoor.Lo

/- What holds between two rounds of the comparison of two linked types, in memory. -/
namespace Go.Proofs.YtfppglfajbmapaaDoor.Lo
open Go.RowKit

def cellsP (p : Value × Value) : List Value := [p.1, p.2]
theorem cellsP_len (L : List (Value × Value)) : (L.flatMap cellsP).length = L.length * 2 := by
  induction L with
  | nil => rfl
  | cons p L ih => simp only [List.flatMap_cons, List.length_append, ih, List.length_cons, cellsP, List.length_nil]; omega
theorem cellsP_last (L : List (Value × Value)) (p : Value × Value) (j : Nat) : ((L ++ [p]).flatMap cellsP)[L.length * 2 + j]? = (cellsP p)[j]? := by
  rw [List.flatMap_append, List.getElem?_append_right (by rw [cellsP_len]; omega), cellsP_len, Nat.add_sub_cancel_left]
  simp
theorem cellsP_take (L : List (Value × Value)) (p : Value × Value) : ((L ++ [p]).flatMap cellsP).take (L.length * 2) = L.flatMap cellsP := by
  rw [List.flatMap_append, List.take_append_of_le_length (by rw [cellsP_len]; omega), List.take_of_length_le (by rw [cellsP_len]; omega)]

theorem pairI : (Tryd.prog.info? ( /- t -/ 169)).map (fun i => (i.zero.map (fun z => z.cells.size), i.size, i.bytes)) = some (some 2, 2, 32) := by kernel_rfl
theorem pair_info2 : ∃ i z, Tryd.prog.info? ( /- t -/ 169) = some i ∧ i.zero = some z ∧ i.size = 2 ∧ i.bytes = 32 ∧ z.cells.size = 2 := by
  have h := pairI
  cases hi : Tryd.prog.info? ( /- t -/ 169) with
  | none => rw [hi] at h; cases h
  | some i =>
    rw [hi] at h
    simp only [Option.map_some, Option.some.injEq, Prod.mk.injEq] at h
    obtain ⟨h1, h2, h3⟩ := h
    cases hz : i.zero with
    | none => rw [hz] at h1; cases h1
    | some z =>
      rw [hz] at h1
      exact ⟨i, z, rfl, hz, h2, h3, by simpa using h1⟩

/-- What holds between two rounds. -/
def RelC (sub : Bool) (W0 : World) (ks bs : List Nat) (va vb : Value) (res : Bool) (m n : Nat) (v : Value) (wr : World) : Prop :=
  ∃ (L : List (Value × Value)) (S : List (Nat × Nat)), 5 * (ks.length * bs.length - S.length) + L.length ≤ n ∧ n ≤ 4000000 ∧ wr.ownsRow W0.heap.size ( /- t -/ 169) 2 v L.length (L.flatMap cellsP) ∧ SetIs wr m S ∧
    Cmp sub W0 ks bs va vb res L S ∧ W0.heap.size ≤ m ∧ Below W0.heap.size W0 wr
theorem relC_start {sub : Bool} {w : World} {ks bs : List Nat} {va vb : Value} {a b : Nd} (ha : Rep w ks va a) (hb : Rep w bs vb b) (h1 : ks.length ≤ 800) (h2 : bs.length ≤ 800) :
    RelC sub w ks bs va vb (alikeB sub a b) w.heap.size (5 * (ks.length * bs.length) + 1) (.slice (some ⟨w.heap.size + 1, 0, none⟩) 1 1) ((w.alloc (.map #[] 0)).alloc (.cells #[va, vb] ( /- t -/ 169))) := by
  have hs3 : (w.alloc (.map #[] 0)).heap.size = w.heap.size + 1 := by simp
  have hm : ks.length * bs.length ≤ 800 * 800 := Nat.mul_le_mul h1 h2
  refine ⟨[(va, vb)], [], by simp, by omega, ?_, ?_, Cmp.begin ha hb, Nat.le_refl _, ?_⟩
  · have h := World.ownsRow_lit (base := w.heap.size) (e := ( /- t -/ 169)) (size := 2) (w.alloc (.map #[] 0)) #[va, vb] 1 (by rw [hs3]; omega) (by unfold maxLen; omega) rfl
    rw [hs3] at h
    simpa [cellsP] using h
  · have h := SetIs.made w
    exact h.same ((alloc_below (w.alloc (.map #[] 0)) _).block _ (by rw [hs3]; omega))
  · exact ((Below.refl _ _).alloc (Nat.le_refl _) _).alloc (by simp) _

theorem row_belowC {w w' : World} {base : Nat} {e : TypeId} {size : Nat} {v : Value} {n : Nat} {xs : List Value} (h : w.ownsRow base e size v n xs) (hb : Below w.heap.size w w') : w'.ownsRow base e size v n xs := by
  rcases h with ⟨hl, h | ⟨g, cap, cur, hv, hg, hh, hr⟩⟩
  · exact ⟨hl, Or.inl h⟩
  · exact ⟨hl, Or.inr ⟨g, cap, cur, hv, hg, (hb.block g (Array.getElem?_eq_some_iff.1 hh).1).trans hh, hr⟩⟩
theorem row_shapeC {w : World} {base : Nat} {e : TypeId} {size : Nat} {v : Value} {n : Nat} {xs : List Value} (h : w.ownsRow base e size v n xs) : ∃ a cap, v = .slice a n cap := by
  rcases h.2 with ⟨rfl, rfl⟩ | ⟨g, cap, cur, rfl, _⟩
  · exact ⟨_, _, rfl⟩
  · exact ⟨_, _, rfl⟩
theorem row_cutC {w : World} {base : Nat} {e : TypeId} {size : Nat} {g n m cap : Nat} {xs : List Value} (h : w.ownsRow base e size (.slice (some ⟨g, 0, none⟩) n cap) n xs) (hm : m ≤ n) :
    w.ownsRow base e size (.slice (some ⟨g, 0, none⟩) m cap) m (xs.take (m * size)) := by
  have hle : m * size ≤ n * size := Nat.mul_le_mul_right _ hm
  rcases h with ⟨hl, ⟨hv, _⟩ | ⟨g', cap', cur, hv, hb, hh, hc, hc', hs, ht⟩⟩
  · cases hv
  · simp only [Value.slice.injEq, Option.some.injEq, Addr.mk.injEq, and_true] at hv
    obtain ⟨rfl, -, rfl⟩ := hv
    refine ⟨by rw [List.length_take, hl, Nat.min_eq_left hle], Or.inr ⟨g, cap, cur, rfl, hb, hh, Nat.le_trans hm hc, hc', hs, ?_⟩⟩
    rw [← ht, List.take_take, Nat.min_eq_left hle]
theorem row_capC {w : World} {base : Nat} {e : TypeId} {size : Nat} {a : Option Addr} {n cap : Nat} {xs : List Value} (h : w.ownsRow base e size (.slice a n cap) n xs) : n ≤ cap ∧ cap ≤ maxLen := by
  rcases h.2 with ⟨e, rfl⟩ | ⟨g, cap', cur, e, _, _, h1, h2, _⟩
  · simp only [Value.slice.injEq] at e
    obtain ⟨_, _, rfl⟩ := e
    exact ⟨Nat.le_refl _, Nat.zero_le _⟩
  · simp only [Value.slice.injEq] at e
    obtain ⟨_, _, rfl⟩ := e
    exact ⟨h1, h2⟩
theorem below_grownC {B M : Nat} {a b c : World} (hB : B ≤ a.heap.size) (h : Below B a b) (hg : b.grownBy c (some M)) (hM : B ≤ M) : Below B a c :=
  ⟨hg.os.trans h.os, hg.tape.trans h.tape, hg.output.trans h.output, Nat.le_trans h.size hg.size, fun k hk => (hg.block k (Nat.lt_of_lt_of_le (Nat.lt_of_lt_of_le hk hB) h.size) (fun e => by cases e; omega)).trans (h.block k hk)⟩
theorem row_grownC {b c : World} {base : Nat} {e : TypeId} {size : Nat} {v : Value} {n M : Nat} {xs : List Value} {S : List (Nat × Nat)} (h : b.ownsRow base e size v n xs) (hm : SetIs b M S) (hg : b.grownBy c (some M)) : c.ownsRow base e size v n xs := by
  obtain ⟨es, ck, hm, _⟩ := hm
  rcases h with ⟨hl, h | ⟨g, cap, cur, hv, hb, hh, hr⟩⟩
  · exact ⟨hl, Or.inl h⟩
  · have hne : g ≠ M := fun e => by rw [e, hm] at hh; cases hh
    exact ⟨hl, Or.inr ⟨g, cap, cur, hv, hb, (hg.block g (Array.getElem?_eq_some_iff.1 hh).1 (fun e => hne (by cases e; rfl))).trans hh, hr⟩⟩
theorem set_grownC {b c : World} {base : Nat} {e : TypeId} {size : Nat} {v : Value} {n M : Nat} {xs : List Value} {S : List (Nat × Nat)} (h : b.ownsRow base e size v n xs) (hm : SetIs b M S) (hg : b.grownBy c v.ownBlock) : SetIs c M S := by
  refine hm.same (hg.block M hm.lt (fun e => ?_))
  obtain ⟨es, ck, hm, _⟩ := hm
  rcases h.2 with ⟨rfl, _⟩ | ⟨g, cap, cur, rfl, _, hh, _⟩
  · cases e
  · simp only [Value.ownBlock, Option.some.injEq] at e
    subst e
    rw [hm] at hh
    cases hh
theorem below_rowC {B : Nat} {a b c : World} {e : TypeId} {size : Nat} {v : Value} {n : Nat} {xs : List Value} (hB : B ≤ a.heap.size) (h : Below B a b) (hr : b.ownsRow B e size v n xs) (hg : b.grownBy c v.ownBlock) : Below B a c :=
  ⟨hg.os.trans h.os, hg.tape.trans h.tape, hg.output.trans h.output, Nat.le_trans h.size hg.size, fun k hk => (hg.block k (Nat.lt_of_lt_of_le (Nat.lt_of_lt_of_le hk hB) h.size) (fun e => by have := (hr.lt k e.symm).1; omega)).trans (h.block k hk)⟩

/-- A round that adds nothing. -/
theorem relC_pop {sub res : Bool} {W0 wr w8 : World} {ks bs : List Nat} {va vb v v' sl : Value} {m n0 n : Nat} {L0 : List (Value × Value)} {S : List (Nat × Nat)} (hcut : wr.ownsRow W0.heap.size ( /- t -/ 169) 2 sl n0 (L0.flatMap cellsP)) (hn0 : n0 = L0.length) (hset : SetIs wr m S)
    (hb : Below wr.heap.size wr w8) (hcmp : Cmp sub W0 ks bs va vb res (L0 ++ [(v, v')]) S) (hf : Fine W0 L0 S v v') (hM : W0.heap.size ≤ m) (hbw : Below W0.heap.size W0 wr) (hn : 5 * (ks.length * bs.length - S.length) + (L0.length + 1) ≤ n + 1) (hn4 : n + 1 ≤ 4000000) : RelC sub W0 ks bs va vb res m n sl w8 := by
  subst hn0
  exact ⟨L0, S, by omega, by omega, row_belowC hcut hb, hset.same (hb.block _ hset.lt), hcmp.pop hf, hM, hbw.trans (hb.mono hbw.size)⟩

theorem fit_kinds {sub : Bool} {x y : Nd} (h : x.k ≠ y.k) : fitB sub x y = false := by
  unfold fitB
  rw [beq_eq_false_iff_ne.2 h, Bool.false_and]

theorem any_yes {A B : Nat} {S : List (Nat × Nat)} (h : S.any (kyB (some A, some B)) = true) : (A, B) ∈ S := by
  obtain ⟨e, he, hk⟩ := List.any_eq_true.1 h
  simp only [kyB, Bool.and_eq_true, beq_iff_eq, Option.some.injEq] at hk
  obtain ⟨rfl, rfl⟩ := hk
  exact he
theorem any_no {A B : Nat} {S : List (Nat × Nat)} (h : S.any (kyB (some A, some B)) = false) : (A, B) ∉ S := by
  intro hm
  have : S.any (kyB (some A, some B)) = true := List.any_eq_true.2 ⟨_, hm, by simp [kyB]⟩
  rw [h] at this
  cases this
theorem any_nil1 (B : Option Nat) (S : List (Nat × Nat)) : S.any (kyB (none, B)) = false := by
  rw [List.any_eq_false]
  intro e _
  simp [kyB]
theorem any_nil2 (A : Option Nat) (S : List (Nat × Nat)) : S.any (kyB (A, none)) = false := by
  rw [List.any_eq_false]
  intro e _
  simp [kyB]

/-- Every pair that was seen is a pair of blocks. -/
theorem Cmp.good {sub res : Bool} {W0 w : World} {ks bs : List Nat} {va vb : Value} {L : List (Value × Value)} {S : List (Nat × Nat)} (h : Cmp sub W0 ks bs va vb res L S) (hb : Below W0.heap.size W0 w) : ∀ y ∈ S, GoodB w y.1 ∧ GoodB w y.2 := by
  intro y hy
  obtain ⟨x, z, xs, ys, -, -, ⟨_, _, _, _, h1, -⟩, -, ⟨_, _, _, _, h2, -⟩, -⟩ := h.seen y hy
  exact ⟨⟨_, h1.below hb⟩, ⟨_, h2.below hb⟩⟩
theorem Act.good {W0 w : World} {bs : List Nat} {A : Nat} {x : Nd} (h : Act W0 bs A x) (hb : Below W0.heap.size W0 w) : GoodB w A := by
  obtain ⟨-, xs, ⟨_, _, _, _, h1, -⟩, -⟩ := h
  exact ⟨_, h1.below hb⟩
theorem GoodB.below {w w' : World} {b : Nat} (h : GoodB w b) (hb : Below w.heap.size w w') : GoodB w' b := by
  obtain ⟨cs, h⟩ := h
  exact ⟨cs, h.below hb⟩
theorem goodK_mk {w : World} {x : Option Nat × Option Nat} (h1 : ∀ p, x.1 = some p → GoodB w p) (h2 : ∀ p, x.2 = some p → GoodB w p) : GoodK w x := ⟨h1, h2⟩
theorem act_small {T : Nd} (hw : wN T 0 0 = true) (hk : T.k = 2 ∨ T.k = 3) : T.kids.len ≤ 4 := by
  unfold wN at hw
  simp only [Bool.and_eq_true] at hw
  have := (shape_act hk hw.1).2.2
  unfold branchesB at this
  simp only [Bool.and_eq_true, decide_eq_true_eq] at this
  exact this.2.2
end Go.Proofs.YtfppglfajbmapaaDoor.Lo

/- How LocalEquivalent lets two actions fit. -/
namespace Go.Proofs.YtfppglfajbmapaaDoor.Lo
open Go.RowKit

set_option maxHeartbeats 1000000 in
set_option maxRecDepth 100000 in
theorem fitE_calls (w0 w : World) (ks bs : List Nat) (A B : Nat) (x y : Nd) (hx : Act w0 ks A x) (hy : Act w0 bs B y) (hB : Below w0.heap.size w0 w) :
    Calls Tryd.prog 57 #[.pointer (some ⟨A, 0, none⟩), .pointer (some ⟨B, 0, none⟩)] w fun e w' => e = .returned (.bool (labB2 false x y)) ∧ Below w.heap.size w w' := by
  have HN1 := hide (covers_calls w0 w ks bs A B x y hx hy hB)
  have HN2 := hide (fun (w2 : World) (hB2 : Below w0.heap.size w0 w2) => covers_calls w0 w2 bs ks B A y x hy hx hB2)
  have HB := hide hB
  clear hx hy hB
  rw [show labB2 false x y = (subsF x.kids y.kids && subsF y.kids x.kids) by unfold labB2; rw [if_neg (by decide)]]
  cases h1 : subsF y.kids x.kids with
  | false =>
    rw [h1] at HN1
    rw [Bool.and_false]
    go_enter Tryd.func57, Tryd.ntmps57
    go_wp2_with fail
    refine HN1.out.mono ?_
    rintro e w1 ⟨rfl, hb⟩
    go_wp2_with fail
    go_ret
    exact ⟨rfl, hb⟩
  | true =>
    rw [h1] at HN1
    rw [Bool.and_true]
    generalize subsF x.kids y.kids = v at *
    go_enter Tryd.func57, Tryd.ntmps57
    go_wp2_with fail
    refine HN1.out.mono ?_
    rintro e w1 ⟨rfl, hb⟩
    have HN3 := hide (HN2.out w1 (HB.out.trans (hb.mono HB.out.size)))
    go_wp2_with fail
    refine HN3.out.mono ?_
    rintro e w2 ⟨rfl, hb2⟩
    have hb3 := hb.trans (hb2.mono hb.size)
    clear hb hb2
    go_wp2_with fail
    go_ret
    exact ⟨rfl, hb3⟩

end Go.Proofs.YtfppglfajbmapaaDoor.Lo
