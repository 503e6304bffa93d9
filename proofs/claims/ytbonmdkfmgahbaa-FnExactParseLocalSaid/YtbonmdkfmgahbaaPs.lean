/- ParseLocal of the model: values. -/
import Derived.Test.YtbonmdkfmgahbaaPv
namespace Go.Proofs.Ytbonmdkfmgahbaa.Lo.Ne
open Go.RowKit

def exB (s : List UInt8) (acc : F) : Option (F × List UInt8) := if nxC s 125 then some (acc, s.tail) else none
def goesB (s : List UInt8) : Bool := (nxC s 123 || nxC s 124) && !s.tail.isEmpty
/-- The model's loop over the branches; at most j more. -/
def spB (g : List UInt8 → Option (Nd × List UInt8)) : Nat → List UInt8 → F → Option (F × List UInt8)
  | 0, s, acc => exB s acc
  | j + 1, s, acc =>
    if goesB s then
      (match g s.tail.tail with
        | some (N, t) => spB g j t (acc.app (brn ⟨#[hdC s.tail]⟩ N))
        | none => none)
    else exB s acc
/-- The model's parser; d levels at most. -/
def sp : Nat → List UInt8 → Option (Nd × List UInt8)
  | 0, _ => none
  | d + 1, s =>
    if nxC s 46 then some (ndEnd, s.tail)
    else if nxC s 35 && !s.tail.isEmpty then some (ndVar (hdC s.tail), s.tail.tail)
    else if nxC s 64 then (match sp d s.tail with | some (N, t) => some (ndRec N, t) | none => none)
    else if nxC s.tail.tail 123 then
      (match spB (sp d) 5 s.tail.tail .nil with
        | some (f, t) => some (⟨if hdC s.tail = 33 then 2 else 3, ⟨#[hdC s]⟩, 0, f⟩, t)
        | none => none)
    else none

/-! ### A valid tree's text is read back -/

def CF (f : F) : Prop := ∀ (b u d : Int), 0 ≤ u → vldF f b u d = true → digF f = true →
  ((∀ p, ascB p f = true → ∀ (j : Nat) (acc : F) (t : List UInt8), f.len ≤ j → spB (sp d.toNat) j (bl (txF f .more) ++ 125 :: t) acc = some (acc.app f, t)) ∧
   (∀ p, ascB p f = true → f ≠ .nil → ∀ (j : Nat) (acc : F) (t : List UInt8), f.len ≤ j → spB (sp d.toNat) j (bl (txF f .first) ++ 125 :: t) acc = some (acc.app f, t)) ∧
   (∀ lab k fr ix kids, f = .cons lab k fr ix kids .nil → ∀ (t : List UInt8), sp d.toNat (bl (txF f .body) ++ t) = some (⟨k, fr, ix, kids⟩, t)))

theorem sp_node {k : Int} {fr : ByteArray} {ix : Int} {kids : F} (ih : CF kids) {b u d : Int} (hu : 0 ≤ u) (h : vldN k fr ix kids b u d = true) (hd : digN ⟨k, fr, ix, kids⟩ = true)
    (t : List UInt8) : sp d.toNat (bl (txN k fr ix kids) ++ t) = some (⟨k, fr, ix, kids⟩, t) := by
  unfold vldN at h
  obtain ⟨hd1, hsh, hk⟩ := node_kinds hu h
  unfold digN at hd
  simp only [Bool.and_eq_true] at hd
  obtain ⟨m, hm, hm'⟩ : ∃ m, d.toNat = m + 1 ∧ (d - 1).toNat = m := ⟨(d - 1).toNat, by omega, rfl⟩
  rw [hm]
  rcases hk with rfl | ⟨rfl, h0, h1, rfl⟩ | ⟨rfl, hr⟩ | ⟨hkk, ha⟩
  · obtain ⟨e1, rfl, rfl⟩ := shape_end hsh
    obtain rfl := empty_of_list e1
    rfl
  · obtain ⟨e1, -⟩ := shape_var hsh
    obtain rfl := empty_of_list e1
    have h9 : ix ≤ 9 := by simpa using hd.1
    obtain ⟨c, e2, e3, e4⟩ := bdec_digit h0 h9
    have e5 : bl (txN 5 ⟨#[]⟩ ix .nil) ++ t = 35 :: c :: t := by
      show bl (bhash ++ bdec ix) ++ t = _
      rw [bl_append, e2]
      rfl
    rw [e5]
    show some (ndVar c, t) = _
    unfold ndVar
    rw [e4]
  · obtain ⟨e1, rfl, lab, k', fr', ix', kids', rfl, e2⟩ := shape_rec hsh
    obtain rfl := empty_of_list e1
    obtain rfl := empty_of_list e2
    have e5 : bl (txN 4 ⟨#[]⟩ 0 (.cons ⟨#[]⟩ k' fr' ix' kids' .nil)) ++ t = 64 :: (bl (txF (.cons ⟨#[]⟩ k' fr' ix' kids' .nil) .body) ++ t) := by
      show bl (bat ++ _) ++ t = _
      rw [bl_append]
      rfl
    have hb := (ih (b + 1) (u + 1) (d - 1) (by omega) hr hd.2).2.2 _ _ _ _ _ rfl t
    rw [hm'] at hb
    rw [e5]
    show (match sp m (bl (txF (.cons ⟨#[]⟩ k' fr' ix' kids' .nil) .body) ++ t) with | some (N, t) => some (ndRec N, t) | none => none) = _
    rw [hb]
    rfl
  · obtain ⟨e1, rfl, e3⟩ := shape_act hkk hsh
    obtain ⟨c, rfl⟩ := one_byte (role_size e1)
    unfold branchesB at e3
    simp only [Bool.and_eq_true, decide_eq_true_eq] at e3
    have hne : kids ≠ .nil := by rintro rfl; simp [F.len] at e3
    obtain ⟨mk, hm1, hm2⟩ : ∃ m : UInt8, bl (mark k) = [m] ∧ ((m = 33 ∧ k = 2) ∨ (m = 63 ∧ k = 3)) := by
      rcases hkk with rfl | rfl
      · exact ⟨33, rfl, Or.inl ⟨rfl, rfl⟩⟩
      · exact ⟨63, rfl, Or.inr ⟨rfl, rfl⟩⟩
    have e5 : bl (txN k ⟨#[c]⟩ 0 kids) ++ t = c :: mk :: (bl (txF kids .first) ++ 125 :: t) := by
      unfold txN nodeT
      rw [if_neg (by omega), if_neg (by omega), if_neg (by omega), bl_append, bl_append, bl_append, hm1]
      simp [bl, bclose]
    rw [e5]
    have hc := role_letter e1
    have c46 : nxC (c :: mk :: (bl (txF kids .first) ++ 125 :: t)) 46 = false := by rcases hc with rfl | rfl | rfl <;> rfl
    have c35 : nxC (c :: mk :: (bl (txF kids .first) ++ 125 :: t)) 35 = false := by rcases hc with rfl | rfl | rfl <;> rfl
    have c64 : nxC (c :: mk :: (bl (txF kids .first) ++ 125 :: t)) 64 = false := by rcases hc with rfl | rfl | rfl <;> rfl
    have c123 : nxC (bl (txF kids .first) ++ 125 :: t) 123 = true := by
      cases kids with
      | nil => exact absurd rfl hne
      | cons lab k' fr' ix' kids' rest =>
        show nxC (bl (bopen ++ lab ++ nodeT k' fr' ix' _ _ ++ txF rest .more) ++ 125 :: t) 123 = true
        rw [bl_append, bl_append, bl_append]
        rfl
    have hb := (ih b 0 (d - 1) (by omega) ha hd.2).2.1 none e3.1 hne 5 .nil t (by omega)
    rw [hm'] at hb
    unfold sp
    rw [if_neg (by rw [c46]; decide), if_neg (by rw [c35, Bool.false_and]; decide), if_neg (by rw [c64]; decide)]
    rw [show (c :: mk :: (bl (txF kids .first) ++ 125 :: t)).tail.tail = bl (txF kids .first) ++ 125 :: t from rfl, if_pos c123, hb]
    show some ((⟨if mk = 33 then 2 else 3, ⟨#[c]⟩, 0, kids⟩ : Nd), t) = _
    rcases hm2 with ⟨rfl, rfl⟩ | ⟨rfl, rfl⟩ <;> rfl

theorem sp_all : ∀ f : F, CF f := by
  intro f
  induction f with
  | nil =>
    intro b u d _ _ _
    refine ⟨fun p _ j acc t hn => ?_, fun p _ h => absurd rfl h, fun lab k fr ix kids e => by cases e⟩
    rw [show bl (txF .nil .more) ++ 125 :: t = 125 :: t from rfl, F.app_nil]
    cases j <;> rfl
  | cons lab k fr ix kids rest ihk ihr =>
    intro b u d hu hv hd
    simp only [vldF, Bool.and_eq_true] at hv
    have hd0 : digN ⟨k, fr, ix, kids⟩ = true ∧ digF rest = true := by
      simp only [digF, Bool.and_eq_true] at hd
      unfold digN
      simp only [Bool.and_eq_true]
      exact ⟨⟨hd.1, hd.2.1⟩, hd.2.2⟩
    have hN : ∀ (t : List UInt8), sp d.toNat (bl (txN k fr ix kids) ++ t) = some (⟨k, fr, ix, kids⟩, t) :=
      fun t => sp_node ihk hu (b := b) (d := d) hv.1 hd0.1 t
    have hstep : ∀ (sep : UInt8) (q : ByteArray), (sep = 123 ∨ sep = 124) → bl q = [sep] → ∀ p, ascB p (.cons lab k fr ix kids rest) = true → ∀ (j : Nat) (acc : F) (t : List UInt8),
        F.len (.cons lab k fr ix kids rest) ≤ j → spB (sp d.toNat) j (bl (q ++ lab ++ txN k fr ix kids ++ txF rest .more) ++ 125 :: t) acc = some (acc.app (.cons lab k fr ix kids rest), t) := by
      intro sep q hse hsp p hasc j acc t hn
      have hl := asc_labels _ p lab k fr ix kids rest rfl hasc
      obtain ⟨c, rfl⟩ := one_byte (lab_size hl.1)
      have e5 : bl (q ++ ⟨#[c]⟩ ++ txN k fr ix kids ++ txF rest .more) ++ 125 :: t = sep :: c :: (bl (txN k fr ix kids) ++ (bl (txF rest .more) ++ 125 :: t)) := by
        rw [bl_append, bl_append, bl_append, hsp]
        simp [bl]
      rw [e5]
      simp only [F.len] at hn
      cases j with
      | zero => omega
      | succ j =>
        have hg : goesB (sep :: c :: (bl (txN k fr ix kids) ++ (bl (txF rest .more) ++ 125 :: t))) = true := by rcases hse with rfl | rfl <;> rfl
        rw [spB, if_pos hg]
        rw [show (sep :: c :: (bl (txN k fr ix kids) ++ (bl (txF rest .more) ++ 125 :: t))).tail.tail = bl (txN k fr ix kids) ++ (bl (txF rest .more) ++ 125 :: t) from rfl, hN]
        show spB (sp d.toNat) j (bl (txF rest .more) ++ 125 :: t) (acc.app (brn ⟨#[c]⟩ ⟨k, fr, ix, kids⟩)) = _
        rw [(ihr b u d hu hv.2 hd0.2).1 _ hl.2 j _ t (by omega)]
        unfold brn
        rw [F.app_assoc]
        rfl
    refine ⟨fun p hasc j acc t hn => hstep 124 bbar (Or.inr rfl) rfl p hasc j acc t hn, fun p hasc _ j acc t hn => hstep 123 bopen (Or.inl rfl) rfl p hasc j acc t hn, fun lab' k' fr' ix' kids' e t => ?_⟩
    injection e with e1 e2 e3 e4 e5 e6
    subst e1 e2 e3 e4 e5 e6
    exact hN t

/-! ### What was read is not longer than its text, and as long only if all indices are of one digit -/

theorem bdec_len (ix : Int) : 1 ≤ (bdec ix).size ∧ (10 ≤ ix → 2 ≤ (bdec ix).size) := by
  have h : ∀ i : Nat, 1 ≤ (Lib.decDigits i).length := fun i => by
    unfold Lib.decDigits
    split <;> simp
  have e : (bdec ix).size = (Lib.decDigits ix.toNat).length := by simp [bdec, ByteArray.size]
  rw [e]
  refine ⟨h _, fun h10 => ?_⟩
  unfold Lib.decDigits
  rw [dif_neg (by omega)]
  have := h (ix.toNat / 10)
  simp
  omega
theorem txF_fm (f : F) : (txF f .first).size = (txF f .more).size := by
  cases f with
  | nil => rfl
  | cons lab k fr ix kids rest =>
    simp only [txF, ByteArray.size_append]
    rfl
def DP (s : List UInt8) (N : Nd) (t : List UInt8) : Prop := ∀ (b u d : Int), 0 ≤ u → vldN N.k N.fr N.ix N.kids b u d = true →
  s.length ≤ (txN N.k N.fr N.ix N.kids).size + t.length ∧ (s.length = (txN N.k N.fr N.ix N.kids).size + t.length → digN N = true)
theorem nx_len {s : List UInt8} {c : UInt8} (h : nxC s c = true) : s.length = s.tail.length + 1 := by
  rw [nxC_cons h]
  simp
theorem spB_len (g : List UInt8 → Option (Nd × List UInt8)) (hg : ∀ s N t, g s = some (N, t) → DP s N t) : ∀ (j : Nat) (s : List UInt8) (acc f : F) (t : List UInt8), spB g j s acc = some (f, t) → ∃ r, f = acc.app r ∧
    ∀ (b u d : Int), 0 ≤ u → vldF r b u d = true → s.length ≤ (txF r .more).size + 1 + t.length ∧ (s.length = (txF r .more).size + 1 + t.length → digF r = true) := by
  have hex : ∀ (s : List UInt8) (acc f : F) (t : List UInt8), exB s acc = some (f, t) → ∃ r, f = acc.app r ∧
      ∀ (b u d : Int), 0 ≤ u → vldF r b u d = true → s.length ≤ (txF r .more).size + 1 + t.length ∧ (s.length = (txF r .more).size + 1 + t.length → digF r = true) := by
    intro s acc f t h
    unfold exB at h
    split at h
    · rename_i h125
      injection h with h
      injection h with h1 h2
      subst h1 h2
      refine ⟨.nil, (F.app_nil _).symm, fun b u d _ _ => ⟨?_, fun _ => rfl⟩⟩
      have := nx_len h125
      show s.length ≤ 0 + 1 + s.tail.length
      omega
    · cases h
  intro j
  induction j with
  | zero => exact fun s acc f t h => hex s acc f t h
  | succ j ih =>
    intro s acc f t h
    rw [spB] at h
    split at h
    · rename_i hgo
      cases hr : g s.tail.tail with
      | none => rw [hr] at h; cases h
      | some q =>
        obtain ⟨N, t1⟩ := q
        rw [hr] at h
        obtain ⟨r, hr1, hr2⟩ := ih _ _ _ _ h
        refine ⟨.cons ⟨#[hdC s.tail]⟩ N.k N.fr N.ix N.kids r, by rw [hr1, F.app_assoc]; rfl, fun b u d hu hv => ?_⟩
        simp only [vldF, Bool.and_eq_true] at hv
        obtain ⟨a1, a2⟩ := hg _ _ _ hr b u d hu hv.1
        obtain ⟨b1, b2⟩ := hr2 b u d hu hv.2
        have hl : s.length ≤ s.tail.tail.length + 2 := by
          cases s with
          | nil => simp
          | cons x s => cases s <;> simp
        have e : (txF (.cons ⟨#[hdC s.tail]⟩ N.k N.fr N.ix N.kids r) .more).size = 2 + (txN N.k N.fr N.ix N.kids).size + (txF r .more).size := by
          show (bbar ++ ⟨#[hdC s.tail]⟩ ++ txN N.k N.fr N.ix N.kids ++ txF r .more).size = _
          simp only [ByteArray.size_append]
          rfl
        rw [e]
        refine ⟨by omega, fun he => ?_⟩
        have d1 := a2 (by omega)
        have d2 := b2 (by omega)
        unfold digN at d1
        simp only [Bool.and_eq_true] at d1
        simp only [digF, d1.1, d1.2, d2, Bool.and_self]
    · exact hex s acc f t h
theorem sp_len : ∀ n s N t, sp n s = some (N, t) → DP s N t := by
  intro n
  induction n with
  | zero => intro s N t h; cases h
  | succ n ih =>
    intro s N t h b u d hu hv
    have hv2 := hv
    unfold vldN at hv2
    obtain ⟨-, hsh, hk⟩ := node_kinds hu hv2
    rw [sp] at h
    split at h
    · rename_i h46
      injection h with h
      injection h with h1 h2
      subst h1 h2
      refine ⟨?_, fun _ => rfl⟩
      have := nx_len h46
      show s.length ≤ 1 + s.tail.length
      omega
    split at h
    · rename_i h35
      injection h with h
      injection h with h1 h2
      subst h1 h2
      simp only [Bool.and_eq_true] at h35
      have e1 := nx_len h35.1
      have e2 : s.tail.length ≤ s.tail.tail.length + 1 := by cases s.tail <;> simp
      have e3 : (txN 5 ⟨#[]⟩ (((hdC s.tail).toNat : Int) - 48) .nil).size = 1 + (bdec (((hdC s.tail).toNat : Int) - 48)).size := by
        show (bhash ++ bdec _).size = _
        rw [ByteArray.size_append]
        rfl
      have e4 := bdec_len (((hdC s.tail).toNat : Int) - 48)
      show s.length ≤ (txN 5 ⟨#[]⟩ (((hdC s.tail).toNat : Int) - 48) .nil).size + _ ∧ _
      refine ⟨by rw [e3]; omega, fun he => ?_⟩
      have he2 : s.length = (txN 5 ⟨#[]⟩ (((hdC s.tail).toNat : Int) - 48) .nil).size + s.tail.tail.length := he
      rw [e3] at he2
      show (((5 : Int) != 5 || decide (((hdC s.tail).toNat : Int) - 48 ≤ 9)) && true) = true
      rw [decide_eq_true (by omega)]
      rfl
    split at h
    · rename_i h64
      cases hr : sp n s.tail with
      | none => rw [hr] at h; cases h
      | some q =>
        obtain ⟨M, t'⟩ := q
        rw [hr] at h
        simp only [Option.some.injEq, Prod.mk.injEq] at h
        obtain ⟨rfl, rfl⟩ := h
        rcases hk with hk | ⟨hk, _⟩ | ⟨-, hr2⟩ | ⟨hk, _⟩
        · exact absurd (show (4 : Int) = 1 from hk) (by decide)
        · exact absurd (show (4 : Int) = 5 from hk) (by decide)
        · simp only [ndRec, vldF, Bool.and_eq_true] at hr2
          obtain ⟨e1, e2⟩ := ih s.tail M t' hr (b + 1) (u + 1) (d - 1) (by omega) hr2.1
          have e3 := nx_len h64
          have e4 : (txN (ndRec M).k (ndRec M).fr (ndRec M).ix (ndRec M).kids).size = 1 + (txN M.k M.fr M.ix M.kids).size := by
            show (bat ++ txN M.k M.fr M.ix M.kids).size = _
            rw [ByteArray.size_append]
            rfl
          rw [e4]
          refine ⟨by omega, fun he => ?_⟩
          have e5 := e2 (by omega)
          show (((4 : Int) != 5 || decide ((0 : Int) ≤ 9)) && ((M.k != 5 || decide (M.ix ≤ 9)) && (digF M.kids && true))) = true
          unfold digN at e5
          simp only [Bool.and_eq_true] at e5
          rw [e5.1, e5.2]
          rfl
        · rcases hk with hk | hk
          · exact absurd (show (4 : Int) = 2 from hk) (by decide)
          · exact absurd (show (4 : Int) = 3 from hk) (by decide)
    split at h
    · rename_i h123
      cases hr : spB (sp n) 5 s.tail.tail .nil with
      | none => rw [hr] at h; cases h
      | some q =>
        obtain ⟨f, t'⟩ := q
        rw [hr] at h
        simp only [Option.some.injEq, Prod.mk.injEq] at h
        obtain ⟨rfl, rfl⟩ := h
        obtain ⟨r, hr1, hr2⟩ := spB_len (sp n) ih _ _ _ _ _ hr
        have hfr : f = r := hr1
        subst hfr
        have hva : vldF f b 0 (d - 1) = true := by
          rcases hk with hk | ⟨hk, _⟩ | ⟨hk, _⟩ | ⟨_, h⟩
          · simp only at hk; split at hk <;> omega
          · simp only at hk; split at hk <;> omega
          · simp only at hk; split at hk <;> omega
          · exact h
        obtain ⟨b1, b2⟩ := hr2 b 0 (d - 1) (by omega) hva
        have hl : s.length ≤ s.tail.tail.length + 2 := by
          cases s with
          | nil => simp
          | cons x s => cases s <;> simp
        have e4 : ∀ k : Int, k = 2 ∨ k = 3 → (txN k ⟨#[hdC s]⟩ 0 f).size = 3 + (txF f .more).size := fun k hk => by
          unfold txN nodeT
          rw [if_neg (by omega), if_neg (by omega), if_neg (by omega)]
          simp only [ByteArray.size_append, mark_size, txF_fm]
          show 1 + 1 + _ + 1 = _
          omega
        have e5 := e4 (if hdC s.tail = 33 then 2 else 3) (by split <;> simp)
        simp only
        rw [e5]
        refine ⟨by omega, fun he => ?_⟩
        have := b2 (by omega)
        show (((if hdC s.tail = 33 then (2 : Int) else 3) != 5 || decide ((0 : Int) ≤ 9)) && digF f) = true
        rw [this]
        simp
    · cases h

/-- What the model makes of a text. -/
def resM (s : List UInt8) : Option Nd :=
  match sp 40 s with
  | some (N, []) => if okN N.k N.fr N.ix N.kids = true ∧ bl (txN N.k N.fr N.ix N.kids) = s then some N else none
  | _ => none
theorem resM_iff (s : List UInt8) (N : Nd) : resM s = some N ↔ (okN N.k N.fr N.ix N.kids = true ∧ digN N = true ∧ s = bl (txN N.k N.fr N.ix N.kids)) := by
  constructor
  · intro h
    unfold resM at h
    split at h
    · rename_i M hM
      split at h
      · rename_i hk
        injection h with h
        subst h
        have hv := hk.1
        unfold okN at hv
        simp only [Bool.and_eq_true] at hv
        have := (sp_len _ _ _ _ hM 0 0 40 (by omega) hv.1).2
        refine ⟨hk.1, this ?_, hk.2.symm⟩
        rw [← bl_length, hk.2]
        rfl
      · cases h
    · cases h
  · rintro ⟨hk, hd, rfl⟩
    have hv := hk
    unfold okN at hv
    simp only [Bool.and_eq_true] at hv
    have := sp_node (sp_all N.kids) (b := 0) (u := 0) (d := 40) (by omega) hv.1 hd []
    rw [List.append_nil] at this
    unfold resM
    rw [show sp 40 _ = some (N, []) from this]
    simp [hk]
end Go.Proofs.Ytbonmdkfmgahbaa.Lo.Ne
