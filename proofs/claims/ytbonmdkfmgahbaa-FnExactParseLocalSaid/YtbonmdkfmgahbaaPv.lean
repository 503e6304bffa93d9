/- Texts of local types read back: values. -/
import Derived.Test.YtbonmdkfmgahbaaLTx
import Derived.Test.YtbonmdkfmgahbaaNr
namespace Go.Proofs.Ytbonmdkfmgahbaa.Lo.Ne
open Go.RowKit

/-- The bytes of a string. -/
def bl (s : ByteArray) : List UInt8 := s.data.toList
theorem bl_append (a b : ByteArray) : bl (a ++ b) = bl a ++ bl b := by simp [bl, ByteArray.data_append]
theorem bl_length (a : ByteArray) : (bl a).length = a.size := Array.length_toList
theorem bl_inj {a b : ByteArray} (h : bl a = bl b) : a = b := ByteArray.ext (Array.toList_inj.1 h)

def hdC : List UInt8 → UInt8
  | [] => 0
  | c :: _ => c
def nxC (s : List UInt8) (d : UInt8) : Bool :=
  match s with
  | [] => false
  | x :: _ => x == d
/-- One letter as a string, or none. -/
def rlet (c : UInt8) : ByteArray := if roleB ⟨#[c]⟩ then ⟨#[c]⟩ else ⟨#[]⟩
def llet (c : UInt8) : ByteArray := if labB ⟨#[c]⟩ then ⟨#[c]⟩ else ⟨#[]⟩

def ndEnd : Nd := ⟨1, ⟨#[]⟩, 0, .nil⟩
def ndVar (c : UInt8) : Nd := ⟨5, ⟨#[]⟩, (c.toNat : Int) - 48, .nil⟩
def ndRec (N : Nd) : Nd := ⟨4, ⟨#[]⟩, 0, .cons ⟨#[]⟩ N.k N.fr N.ix N.kids .nil⟩
def brn (lab : ByteArray) (N : Nd) : F := .cons lab N.k N.fr N.ix N.kids .nil

mutual
/-- readLocal of the program: so many calls deep at most. -/
def rl : Nat → List UInt8 → Option (Nd × List UInt8)
  | 0, _ => none
  | n + 1, s =>
    if nxC s 46 then some (ndEnd, s.tail)
    else if nxC s 35 then (if 48 ≤ (hdC s.tail).toNat ∧ (hdC s.tail).toNat ≤ 57 then some (ndVar (hdC s.tail), s.tail.tail) else none)
    else if nxC s 64 then (match rl n s.tail with | some (N, t) => some (ndRec N, t) | none => none)
    else if hdC s.tail = 33 ∨ hdC s.tail = 63 then
      (match rlB n 123 s.tail.tail .nil with
        | some (f, t) => some (⟨if hdC s.tail = 63 then 3 else 2, rlet (hdC s), 0, f⟩, t)
        | none => none)
    else none
/-- Its loop over the branches. -/
def rlB : Nat → UInt8 → List UInt8 → F → Option (F × List UInt8)
  | 0, _, _, _ => none
  | n + 1, sep, s, acc =>
    if nxC s sep then
      (match rl n s.tail.tail with
        | some (N, t) => rlB n 124 t (acc.app (brn (llet (hdC s.tail)) N))
        | none => none)
    else if nxC s 125 then some (acc, s.tail) else none
end

theorem rl_end {n : Nat} {s : List UInt8} (h : nxC s 46 = true) : rl (n + 1) s = some (ndEnd, s.tail) := by rw [rl, if_pos h]
theorem rl_var {n : Nat} {s : List UInt8} (h1 : nxC s 46 = false) (h2 : nxC s 35 = true) (h3 : 48 ≤ (hdC s.tail).toNat ∧ (hdC s.tail).toNat ≤ 57) : rl (n + 1) s = some (ndVar (hdC s.tail), s.tail.tail) := by
  rw [rl, if_neg (by rw [h1]; decide), if_pos h2, if_pos h3]
theorem rl_var_no {n : Nat} {s : List UInt8} (h1 : nxC s 46 = false) (h2 : nxC s 35 = true) (h3 : ¬ (48 ≤ (hdC s.tail).toNat ∧ (hdC s.tail).toNat ≤ 57)) : rl (n + 1) s = none := by
  rw [rl, if_neg (by rw [h1]; decide), if_pos h2, if_neg h3]
theorem rl_rec {n : Nat} {s : List UInt8} (h1 : nxC s 46 = false) (h2 : nxC s 35 = false) (h3 : nxC s 64 = true) : rl (n + 1) s = (match rl n s.tail with | some (N, t) => some (ndRec N, t) | none => none) := by
  rw [rl, if_neg (by rw [h1]; decide), if_neg (by rw [h2]; decide), if_pos h3]
theorem rl_act {n : Nat} {s : List UInt8} (h1 : nxC s 46 = false) (h2 : nxC s 35 = false) (h3 : nxC s 64 = false) (h4 : hdC s.tail = 33 ∨ hdC s.tail = 63) : rl (n + 1) s =
    (match rlB n 123 s.tail.tail .nil with
      | some (f, t) => some (⟨if hdC s.tail = 63 then 3 else 2, rlet (hdC s), 0, f⟩, t)
      | none => none) := by
  rw [rl, if_neg (by rw [h1]; decide), if_neg (by rw [h2]; decide), if_neg (by rw [h3]; decide), if_pos h4]
theorem rl_act_no {n : Nat} {s : List UInt8} (h1 : nxC s 46 = false) (h2 : nxC s 35 = false) (h3 : nxC s 64 = false) (h4 : ¬ (hdC s.tail = 33 ∨ hdC s.tail = 63)) : rl (n + 1) s = none := by
  rw [rl, if_neg (by rw [h1]; decide), if_neg (by rw [h2]; decide), if_neg (by rw [h3]; decide), if_neg h4]
theorem rlB_more {n : Nat} {sep : UInt8} {s : List UInt8} {acc : F} (h : nxC s sep = true) : rlB (n + 1) sep s acc =
    (match rl n s.tail.tail with
      | some (N, t) => rlB n 124 t (acc.app (brn (llet (hdC s.tail)) N))
      | none => none) := by rw [rlB, if_pos h]
theorem rlB_end {n : Nat} {sep : UInt8} {s : List UInt8} {acc : F} (h : nxC s sep = false) (h2 : nxC s 125 = true) : rlB (n + 1) sep s acc = some (acc, s.tail) := by
  rw [rlB, if_neg (by rw [h]; decide), if_pos h2]
theorem rlB_no {n : Nat} {sep : UInt8} {s : List UInt8} {acc : F} (h : nxC s sep = false) (h2 : nxC s 125 = false) : rlB (n + 1) sep s acc = none := by
  rw [rlB, if_neg (by rw [h]; decide), if_neg (by rw [h2]; decide)]

/-- All variables' indices are of one digit. -/
def digF : F → Bool
  | .nil => true
  | .cons _ k _ ix kids rest => (k != 5 || decide (ix ≤ 9)) && (digF kids && digF rest)
def digN (N : Nd) : Bool := (N.k != 5 || decide (N.ix ≤ 9)) && digF N.kids

theorem empty_of_list {s : ByteArray} (h : s.toList = []) : s = ⟨#[]⟩ := by
  rw [ByteArray.toList_eq] at h
  exact ByteArray.ext (Array.toList_inj.1 h)
theorem one_byte {s : ByteArray} (h : s.size = 1) : ∃ c, s = ⟨#[c]⟩ := by
  obtain ⟨⟨l⟩⟩ := s
  match l, h with
  | [c], _ => exact ⟨c, rfl⟩
theorem bdec_digit {ix : Int} (h0 : 0 ≤ ix) (h9 : ix ≤ 9) : ∃ c : UInt8, bl (bdec ix) = [c] ∧ (48 ≤ c.toNat ∧ c.toNat ≤ 57) ∧ (c.toNat : Int) - 48 = ix := by
  obtain ⟨i, rfl⟩ := Int.eq_ofNat_of_zero_le h0
  have hi : i < 10 := by omega
  have hd : ∀ i : Fin 10, ∃ c : UInt8, Lib.decDigits i.val = [c] ∧ (48 ≤ c.toNat ∧ c.toNat ≤ 57) ∧ c.toNat = 48 + i.val := by
    rintro ⟨i, hi⟩
    refine ⟨UInt8.ofNat (48 + i), ?_, ?_⟩
    · unfold Lib.decDigits
      match i, hi with
      | 0, _ => rfl
      | 1, _ => rfl
      | 2, _ => rfl
      | 3, _ => rfl
      | 4, _ => rfl
      | 5, _ => rfl
      | 6, _ => rfl
      | 7, _ => rfl
      | 8, _ => rfl
      | 9, _ => rfl
    · have : (UInt8.ofNat (48 + i)).toNat = 48 + i := by rw [UInt8.toNat_ofNat']; omega
      simp only
      omega
  obtain ⟨c, h1, h2, h3⟩ := hd ⟨i, hi⟩
  refine ⟨c, ?_, h2, by simp only at h3; omega⟩
  unfold bl bdec
  simp only [Int.toNat_natCast]
  exact h1
theorem role_letter {c : UInt8} (h : roleB ⟨#[c]⟩ = true) : c = 65 ∨ c = 66 ∨ c = 67 := by
  unfold roleB at h
  simp [ByteArray.toList_eq] at h
  rcases h with (h | h) | h
  · exact Or.inl h
  · exact Or.inr (Or.inl h)
  · exact Or.inr (Or.inr h)
theorem rlet_role {c : UInt8} (h : roleB ⟨#[c]⟩ = true) : rlet c = ⟨#[c]⟩ := if_pos h
theorem llet_lab {c : UInt8} (h : labB ⟨#[c]⟩ = true) : llet c = ⟨#[c]⟩ := if_pos h

/-- What reading back a list of branches owes. -/
def BackF (f : F) : Prop := ∀ (b u d : Int), 0 ≤ u → vldF f b u d = true → digF f = true →
  ((∀ p, ascB p f = true → ∀ (n : Nat) (acc : F) (t : List UInt8), (bl (txF f .more) ++ 125 :: t).length < n → rlB n 124 (bl (txF f .more) ++ 125 :: t) acc = some (acc.app f, t)) ∧
   (∀ p, ascB p f = true → f ≠ .nil → ∀ (n : Nat) (acc : F) (t : List UInt8), (bl (txF f .first) ++ 125 :: t).length < n → rlB n 123 (bl (txF f .first) ++ 125 :: t) acc = some (acc.app f, t)) ∧
   (∀ lab k fr ix kids, f = .cons lab k fr ix kids .nil → ∀ (n : Nat) (t : List UInt8), (bl (txF f .body) ++ t).length < n → rl n (bl (txF f .body) ++ t) = some (⟨k, fr, ix, kids⟩, t)))

theorem back_node {k : Int} {fr : ByteArray} {ix : Int} {kids : F} (ih : BackF kids) {b u d : Int} (hu : 0 ≤ u) (h : vldN k fr ix kids b u d = true) (hd : digN ⟨k, fr, ix, kids⟩ = true)
    (n : Nat) (t : List UInt8) (hn : (bl (txN k fr ix kids) ++ t).length < n) : rl n (bl (txN k fr ix kids) ++ t) = some (⟨k, fr, ix, kids⟩, t) := by
  have hv := h
  unfold vldN at h
  obtain ⟨hd1, hsh, hk⟩ := node_kinds hu h
  unfold digN at hd
  simp only [Bool.and_eq_true] at hd
  cases n with
  | zero => omega
  | succ n =>
  rcases hk with rfl | ⟨rfl, h0, h1, rfl⟩ | ⟨rfl, hr⟩ | ⟨hkk, ha⟩
  · obtain ⟨e1, rfl, rfl⟩ := shape_end hsh
    obtain rfl := empty_of_list e1
    rw [show bl (txN 1 ⟨#[]⟩ 0 .nil) ++ t = 46 :: t from rfl, rl_end rfl]
    rfl
  · obtain ⟨e1, -⟩ := shape_var hsh
    obtain rfl := empty_of_list e1
    have h9 : ix ≤ 9 := by simpa using hd.1
    obtain ⟨c, e2, e3, e4⟩ := bdec_digit h0 h9
    have e5 : bl (txN 5 ⟨#[]⟩ ix .nil) ++ t = 35 :: c :: t := by
      show bl (bhash ++ bdec ix) ++ t = _
      rw [bl_append, e2]
      rfl
    rw [e5, rl_var (s := 35 :: c :: t) rfl rfl e3]
    unfold ndVar
    rw [show hdC (35 :: c :: t).tail = c from rfl, e4]
    rfl
  · obtain ⟨e1, rfl, lab, k', fr', ix', kids', rfl, e2⟩ := shape_rec hsh
    obtain rfl := empty_of_list e1
    obtain rfl := empty_of_list e2
    have e5 : bl (txN 4 ⟨#[]⟩ 0 (.cons ⟨#[]⟩ k' fr' ix' kids' .nil)) ++ t = 64 :: (bl (txF (.cons ⟨#[]⟩ k' fr' ix' kids' .nil) .body) ++ t) := by
      show bl (bat ++ _) ++ t = _
      rw [bl_append]
      rfl
    rw [e5] at hn ⊢
    rw [rl_rec rfl rfl rfl]
    have hb := (ih (b + 1) (u + 1) (d - 1) (by omega) hr hd.2).2.2 _ _ _ _ _ rfl n t (by simp only [List.length_cons] at hn; omega)
    rw [show (64 :: (bl (txF (.cons ⟨#[]⟩ k' fr' ix' kids' .nil) .body) ++ t)).tail = bl (txF (.cons ⟨#[]⟩ k' fr' ix' kids' .nil) .body) ++ t from rfl, hb]
    rfl
  · obtain ⟨e1, rfl, e3⟩ := shape_act hkk hsh
    obtain ⟨c, rfl⟩ := one_byte (role_size e1)
    unfold branchesB at e3
    simp only [Bool.and_eq_true, decide_eq_true_eq] at e3
    have hne : kids ≠ .nil := by rintro rfl; simp [F.len] at e3
    obtain ⟨m, hm1, hm2⟩ : ∃ m : UInt8, bl (mark k) = [m] ∧ ((m = 33 ∧ k = 2) ∨ (m = 63 ∧ k = 3)) := by
      rcases hkk with rfl | rfl
      · exact ⟨33, rfl, Or.inl ⟨rfl, rfl⟩⟩
      · exact ⟨63, rfl, Or.inr ⟨rfl, rfl⟩⟩
    have e5 : bl (txN k ⟨#[c]⟩ 0 kids) ++ t = c :: m :: (bl (txF kids .first) ++ 125 :: t) := by
      unfold txN nodeT
      rw [if_neg (by omega), if_neg (by omega), if_neg (by omega), bl_append, bl_append, bl_append, hm1]
      simp [bl, bclose]
    rw [e5] at hn ⊢
    have hc := role_letter e1
    have c46 : nxC (c :: m :: (bl (txF kids .first) ++ 125 :: t)) 46 = false := by rcases hc with rfl | rfl | rfl <;> rfl
    have c35 : nxC (c :: m :: (bl (txF kids .first) ++ 125 :: t)) 35 = false := by rcases hc with rfl | rfl | rfl <;> rfl
    have c64 : nxC (c :: m :: (bl (txF kids .first) ++ 125 :: t)) 64 = false := by rcases hc with rfl | rfl | rfl <;> rfl
    have hm3 : hdC (c :: m :: (bl (txF kids .first) ++ 125 :: t)).tail = 33 ∨ hdC (c :: m :: (bl (txF kids .first) ++ 125 :: t)).tail = 63 := by
      rcases hm2 with ⟨h, _⟩ | ⟨h, _⟩
      · exact Or.inl h
      · exact Or.inr h
    rw [rl_act c46 c35 c64 hm3]
    have hb := (ih b 0 (d - 1) (by omega) ha hd.2).2.1 none e3.1 hne n .nil t (by simp only [List.length_cons] at hn; omega)
    rw [show (c :: m :: (bl (txF kids .first) ++ 125 :: t)).tail.tail = bl (txF kids .first) ++ 125 :: t from rfl, hb]
    show some ((⟨if m = 63 then 3 else 2, rlet c, 0, kids⟩ : Nd), t) = _
    rw [rlet_role e1]
    rcases hm2 with ⟨rfl, rfl⟩ | ⟨rfl, rfl⟩ <;> rfl

theorem back_all : ∀ f : F, BackF f := by
  intro f
  induction f with
  | nil =>
    intro b u d _ _ _
    refine ⟨fun p _ n acc t hn => ?_, fun p _ h => absurd rfl h, fun lab k fr ix kids e => by cases e⟩
    cases n with
    | zero => omega
    | succ n =>
      rw [show bl (txF .nil .more) ++ 125 :: t = 125 :: t from rfl, rlB_end rfl rfl, F.app_nil]
      rfl
  | cons lab k fr ix kids rest ihk ihr =>
    intro b u d hu hv hd
    simp only [vldF, Bool.and_eq_true] at hv
    have hd0 : digN ⟨k, fr, ix, kids⟩ = true ∧ digF rest = true := by
      simp only [digF, Bool.and_eq_true] at hd
      unfold digN
      simp only [Bool.and_eq_true]
      exact ⟨⟨hd.1, hd.2.1⟩, hd.2.2⟩
    have hN : ∀ (n : Nat) (t : List UInt8), (bl (txN k fr ix kids) ++ t).length < n → rl n (bl (txN k fr ix kids) ++ t) = some (⟨k, fr, ix, kids⟩, t) :=
      fun n t hn => back_node ihk hu (b := b) (d := d) hv.1 hd0.1 n t hn
    have hstep : ∀ (sep : UInt8) (sp : ByteArray), bl sp = [sep] → ∀ p, ascB p (.cons lab k fr ix kids rest) = true → ∀ (n : Nat) (acc : F) (t : List UInt8),
        (bl (sp ++ lab ++ txN k fr ix kids ++ txF rest .more) ++ 125 :: t).length < n → rlB n sep (bl (sp ++ lab ++ txN k fr ix kids ++ txF rest .more) ++ 125 :: t) acc = some (acc.app (.cons lab k fr ix kids rest), t) := by
      intro sep sp hsp p hasc n acc t hn
      have hl := asc_labels _ p lab k fr ix kids rest rfl hasc
      obtain ⟨c, rfl⟩ := one_byte (lab_size hl.1)
      have e5 : bl (sp ++ ⟨#[c]⟩ ++ txN k fr ix kids ++ txF rest .more) ++ 125 :: t = sep :: c :: (bl (txN k fr ix kids) ++ (bl (txF rest .more) ++ 125 :: t)) := by
        rw [bl_append, bl_append, bl_append, hsp]
        simp [bl]
      rw [e5] at hn ⊢
      cases n with
      | zero => omega
      | succ n =>
        simp only [List.length_cons, List.length_append] at hn
        rw [rlB_more (show nxC (sep :: c :: (bl (txN k fr ix kids) ++ (bl (txF rest .more) ++ 125 :: t))) sep = true by simp [nxC])]
        have hb := hN n (bl (txF rest .more) ++ 125 :: t) (by simp only [List.length_append, List.length_cons]; omega)
        rw [show (sep :: c :: (bl (txN k fr ix kids) ++ (bl (txF rest .more) ++ 125 :: t))).tail.tail = bl (txN k fr ix kids) ++ (bl (txF rest .more) ++ 125 :: t) from rfl, hb]
        show rlB n 124 (bl (txF rest .more) ++ 125 :: t) (acc.app (brn (llet c) ⟨k, fr, ix, kids⟩)) = _
        rw [(ihr b u d hu hv.2 hd0.2).1 _ hl.2 n _ t (by simp only [List.length_append, List.length_cons]; omega), llet_lab hl.1]
        unfold brn
        rw [F.app_assoc]
        rfl
    refine ⟨fun p hasc n acc t hn => hstep 124 bbar rfl p hasc n acc t hn, fun p hasc _ n acc t hn => hstep 123 bopen rfl p hasc n acc t hn, fun lab' k' fr' ix' kids' e n t hn => ?_⟩
    injection e with e1 e2 e3 e4 e5 e6
    subst e1 e2 e3 e4 e5 e6
    exact hN n t hn

/-! ### What was read is the text of what came of it -/

theorem nxC_cons {s : List UInt8} {d : UInt8} (h : nxC s d = true) : s = d :: s.tail := by
  cases s with
  | nil => simp [nxC] at h
  | cons x r =>
    have : x = d := by simpa [nxC] using h
    rw [this]
    rfl
theorem rlet_inv {c : UInt8} (h : roleB (rlet c) = true) : rlet c = ⟨#[c]⟩ ∧ roleB ⟨#[c]⟩ = true := by
  unfold rlet at h ⊢
  split at h
  · rename_i h1
    exact ⟨if_pos h1, h1⟩
  · have := role_size h
    cases this
theorem llet_inv {c : UInt8} (h : labB (llet c) = true) : llet c = ⟨#[c]⟩ ∧ labB ⟨#[c]⟩ = true := by
  unfold llet at h ⊢
  split at h
  · rename_i h1
    exact ⟨if_pos h1, h1⟩
  · have := lab_size h
    cases this
theorem hdC_cons {s : List UInt8} (h : hdC s ≠ 0) : s = hdC s :: s.tail := by
  cases s with
  | nil => exact absurd rfl h
  | cons => rfl
theorem role_nz {c : UInt8} (h : roleB ⟨#[c]⟩ = true) : c ≠ 0 := by
  rcases role_letter h with rfl | rfl | rfl <;> decide
theorem lab_nz {c : UInt8} (h : labB ⟨#[c]⟩ = true) : c ≠ 0 := by
  rintro rfl
  revert h
  decide

def SndN (n : Nat) : Prop := ∀ (s : List UInt8) (N : Nd) (t : List UInt8), rl n s = some (N, t) → ∀ (b u d : Int), 0 ≤ u → vldN N.k N.fr N.ix N.kids b u d = true →
  s = bl (txN N.k N.fr N.ix N.kids) ++ t ∧ digN N = true
def SndB (n : Nat) : Prop := ∀ (sep : UInt8) (s : List UInt8) (acc f : F) (t : List UInt8), rlB n sep s acc = some (f, t) → ∃ g, f = acc.app g ∧
  ∀ (p : Option ByteArray) (b u d : Int), 0 ≤ u → vldF g b u d = true → ascB p g = true →
    ((sep = 124 → s = bl (txF g .more) ++ 125 :: t) ∧ (sep = 123 → g ≠ .nil → s = bl (txF g .first) ++ 125 :: t) ∧ digF g = true)

theorem snd_all : ∀ n, SndN n ∧ SndB n := by
  intro n
  induction n with
  | zero => exact ⟨fun s N t h => by simp [rl] at h, fun sep s acc f t h => by simp [rlB] at h⟩
  | succ n ih =>
    constructor
    · intro s N t h b u d hu hv
      cases h46 : nxC s 46 with
      | true =>
        rw [rl_end h46] at h
        injection h with h
        injection h with h1 h2
        subst h1 h2
        refine ⟨?_, rfl⟩
        show s = bl bdot ++ s.tail
        exact nxC_cons h46
      | false =>
      cases h35 : nxC s 35 with
      | true =>
        by_cases hd : 48 ≤ (hdC s.tail).toNat ∧ (hdC s.tail).toNat ≤ 57
        · rw [rl_var h46 h35 hd] at h
          injection h with h
          injection h with h1 h2
          subst h1 h2
          have hnz : hdC s.tail ≠ 0 := by
            intro e
            rw [e] at hd
            revert hd
            decide
          obtain ⟨c, e1, e2, e3⟩ := bdec_digit (ix := ((hdC s.tail).toNat : Int) - 48) (by omega) (by omega)
          have e4 : c = hdC s.tail := UInt8.toNat_inj.1 (by omega)
          refine ⟨?_, ?_⟩
          · show s = bl (bhash ++ bdec (((hdC s.tail).toNat : Int) - 48)) ++ s.tail.tail
            rw [bl_append, e1, e4]
            show s = 35 :: hdC s.tail :: s.tail.tail
            rw [← hdC_cons hnz]
            exact nxC_cons h35
          · show (((5 : Int) != 5 || decide (((hdC s.tail).toNat : Int) - 48 ≤ 9)) && true) = true
            rw [decide_eq_true (by omega)]
            rfl
        · rw [rl_var_no h46 h35 hd] at h
          cases h
      | false =>
      cases h64 : nxC s 64 with
      | true =>
        rw [rl_rec h46 h35 h64] at h
        cases hr : rl n s.tail with
        | none => rw [hr] at h; cases h
        | some q =>
          obtain ⟨M, t'⟩ := q
          rw [hr] at h
          simp only [Option.some.injEq, Prod.mk.injEq] at h
          obtain ⟨rfl, rfl⟩ := h
          have hv2 := hv
          unfold vldN at hv2
          obtain ⟨-, -, hk⟩ := node_kinds hu hv2
          rcases hk with hk | ⟨hk, _⟩ | ⟨-, hr2⟩ | ⟨hk, _⟩
          · exact absurd (show (4 : Int) = 1 from hk) (by decide)
          · exact absurd (show (4 : Int) = 5 from hk) (by decide)
          · simp only [ndRec, vldF, Bool.and_eq_true] at hr2
            obtain ⟨e1, e2⟩ := ih.1 s.tail M t' hr (b + 1) (u + 1) (d - 1) (by omega) hr2.1
            refine ⟨?_, ?_⟩
            · show s = bl (bat ++ txN M.k M.fr M.ix M.kids) ++ t'
              rw [bl_append]
              show s = 64 :: (bl (txN M.k M.fr M.ix M.kids) ++ t')
              rw [← e1]
              exact nxC_cons h64
            · show (((4 : Int) != 5 || decide ((0 : Int) ≤ 9)) && ((M.k != 5 || decide (M.ix ≤ 9)) && (digF M.kids && true))) = true
              unfold digN at e2
              simp only [Bool.and_eq_true] at e2
              rw [e2.1, e2.2]
              rfl
          · rcases hk with hk | hk
            · exact absurd (show (4 : Int) = 2 from hk) (by decide)
            · exact absurd (show (4 : Int) = 3 from hk) (by decide)
      | false =>
        by_cases hm : hdC s.tail = 33 ∨ hdC s.tail = 63
        · rw [rl_act h46 h35 h64 hm] at h
          cases hr : rlB n 123 s.tail.tail .nil with
          | none => rw [hr] at h; cases h
          | some q =>
            obtain ⟨f, t'⟩ := q
            rw [hr] at h
            simp only [Option.some.injEq, Prod.mk.injEq] at h
            obtain ⟨rfl, rfl⟩ := h
            obtain ⟨g, hg, hgs⟩ := ih.2 _ _ _ _ _ hr
            have hfg : f = g := hg
            subst hfg
            have hkk : (if hdC s.tail = 63 then (3 : Int) else 2) = 2 ∨ (if hdC s.tail = 63 then (3 : Int) else 2) = 3 := by split <;> simp
            have hv2 := hv
            unfold vldN at hv2
            obtain ⟨-, hsh, hk⟩ := node_kinds hu hv2
            obtain ⟨e1, -, e3⟩ := shape_act hkk hsh
            unfold branchesB at e3
            simp only [Bool.and_eq_true, decide_eq_true_eq] at e3
            have hne : f ≠ .nil := by rintro rfl; simp [F.len] at e3
            have hva : vldF f b 0 (d - 1) = true := by
              rcases hk with hk | ⟨hk, _⟩ | ⟨hk, _⟩ | ⟨_, h⟩
              · simp only at hk; omega
              · simp only at hk; omega
              · simp only at hk; omega
              · exact h
            obtain ⟨-, q2, q3⟩ := hgs none b 0 (d - 1) (by omega) hva e3.1
            obtain ⟨r1, r2⟩ := rlet_inv e1
            have hs0 := hdC_cons (role_nz r2)
            have hs1 : s.tail = hdC s.tail :: s.tail.tail := hdC_cons (by rcases hm with h | h <;> rw [h] <;> decide)
            refine ⟨?_, ?_⟩
            · unfold txN nodeT
              simp only
              rw [if_neg (by omega), if_neg (by omega), if_neg (by omega), bl_append, bl_append, bl_append, r1]
              have hmk : bl (mark (if hdC s.tail = 63 then (3 : Int) else 2)) = [hdC s.tail] := by
                rcases hm with h | h
                · rw [h]; rfl
                · rw [h]; rfl
              rw [hmk]
              show s = _
              have := q2 rfl hne
              rw [hs0]
              simp only [bl, bclose, List.append_assoc, List.cons_append, List.nil_append]
              congr 1
              rw [hs1]
              congr 1
            · show (((if hdC s.tail = 63 then (3 : Int) else 2) != 5 || decide ((0 : Int) ≤ 9)) && digF f) = true
              rw [q3]
              simp
        · rw [rl_act_no h46 h35 h64 hm] at h
          cases h
    · intro sep s acc f t h
      cases hsep : nxC s sep with
      | false =>
        cases h125 : nxC s 125 with
        | false => rw [rlB_no hsep h125] at h; cases h
        | true =>
          rw [rlB_end hsep h125] at h
          simp only [Option.some.injEq, Prod.mk.injEq] at h
          obtain ⟨rfl, rfl⟩ := h
          exact ⟨.nil, (F.app_nil _).symm, fun p b u d _ _ _ => ⟨fun _ => nxC_cons h125, fun _ h => absurd rfl h, rfl⟩⟩
      | true =>
        rw [rlB_more hsep] at h
        cases hr : rl n s.tail.tail with
        | none => rw [hr] at h; cases h
        | some q =>
          obtain ⟨N, t1⟩ := q
          rw [hr] at h
          obtain ⟨g, hg, hgs⟩ := ih.2 _ _ _ _ _ h
          refine ⟨.cons (llet (hdC s.tail)) N.k N.fr N.ix N.kids g, by rw [hg, F.app_assoc]; rfl, fun p b u d hu hv hasc => ?_⟩
          simp only [vldF, Bool.and_eq_true] at hv
          obtain ⟨hl1, hl2⟩ := asc_labels _ p _ _ _ _ _ _ rfl hasc
          obtain ⟨r1, r2⟩ := llet_inv hl1
          obtain ⟨e1, e2⟩ := ih.1 _ _ _ hr b u d hu hv.1
          obtain ⟨q1, -, q3⟩ := hgs _ b u d hu hv.2 hl2
          have hs0 := nxC_cons hsep
          have hs1 := hdC_cons (lab_nz r2)
          have key : ∀ sp : ByteArray, bl sp = [sep] → s = bl (sp ++ llet (hdC s.tail) ++ txN N.k N.fr N.ix N.kids ++ txF g .more) ++ 125 :: t := by
            intro sp hsp
            rw [bl_append, bl_append, bl_append, hsp, r1, hs0]
            simp only [List.append_assoc, List.cons_append, List.nil_append]
            congr 1
            show s.tail = _
            rw [hs1]
            simp only [bl, List.cons_append, List.nil_append]
            congr 1
            show s.tail.tail = _
            rw [e1, q1 rfl]
            rfl
          refine ⟨fun hsep => key bbar (by rw [hsep]; rfl), fun hsep _ => key bopen (by rw [hsep]; rfl), ?_⟩
          unfold digN at e2
          simp only [Bool.and_eq_true] at e2
          simp only [digF, e2.1, e2.2, q3, Bool.and_self]

end Go.Proofs.Ytbonmdkfmgahbaa.Lo.Ne
