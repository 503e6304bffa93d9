/- Which trees are valid, and how many nodes they have, in plain words. -/
import Derived.Test.YtfppglfajbmapaaDoorTree
import Derived.Laws.Strings
namespace Go.Proofs.YtfppglfajbmapaaDoor
open Go.RowKit

/-- A role. -/
def roleB (s : ByteArray) : Bool := s.toList == [65] || s.toList == [66] || s.toList == [67]
/-- A label. -/
def labB (s : ByteArray) : Bool := match s.data.toList with | [c] => decide (97 ≤ c.toNat ∧ c.toNat ≤ 100) | _ => false

/-- The fields that the kind does not use. -/
def fieldsB (k : Int) (fr to : ByteArray) (ix : Int) : Bool := (k == 2 || fr.toList.isEmpty && to.toList.isEmpty) && (k == 4 || ix == 0)
/-- Labels that ascend. -/
def ascB : Option ByteArray → F → Bool
  | _, .nil => true
  | p, .cons lab _ _ _ _ _ rest => labB lab && (match p with | none => true | some q => Op.bytesLess q.toList lab.toList) && ascB (some lab) rest
def branchesB (kids : F) : Bool := ascB none kids && decide (1 ≤ kids.len ∧ kids.len ≤ 3)
/-- The first label is the empty string. -/
def bareB : F → Bool
  | .nil => true
  | .cons lab _ _ _ _ _ _ => lab.toList.isEmpty

def nodeB (k : Int) (fr to : ByteArray) (ix : Int) (kids : F) (b u d : Int) (vr vm : Bool) : Bool :=
  decide (1 ≤ d) && fieldsB k fr to ix &&
  (if k = 1 then decide (kids.len = 0) else if k = 4 then decide (kids.len = 0) && decide (u ≤ ix) && decide (ix < b)
   else if k = 3 then decide (kids.len = 1) && bareB kids && vr
   else if k = 2 then roleB fr && roleB to && !(fr.toList == to.toList) && branchesB kids && vm else false)

/-- All nodes of the list are valid, below b recursions, the innermost u of them unguarded, and d levels at most. -/
def vldF : F → Int → Int → Int → Bool
  | .nil, _, _, _ => true
  | .cons _ k fr to ix kids rest, b, u, d => nodeB k fr to ix kids b u d (vldF kids (b + 1) (u + 1) (d - 1)) (vldF kids b 0 (d - 1)) && vldF rest b u d
def vldN (k : Int) (fr to : ByteArray) (ix : Int) (kids : F) (b u d : Int) : Bool :=
  nodeB k fr to ix kids b u d (vldF kids (b + 1) (u + 1) (d - 1)) (vldF kids b 0 (d - 1))

/-- The nodes down to a depth. -/
def cntF : F → Int → Nat
  | .nil, _ => 0
  | .cons _ _ _ _ _ kids rest, d => 1 + (if 0 < d then cntF kids (d - 1) else 0) + cntF rest d
def cntN (kids : F) (d : Int) : Nat := 1 + if 0 < d then cntF kids (d - 1) else 0

theorem cntF_le : ∀ (f : F) (d : Int), cntF f d ≤ f.sz := by
  intro f
  induction f with
  | nil => intro d; exact Nat.le_refl _
  | cons lab k fr to ix kids rest ihk ihr =>
    intro d
    have h1 := ihk (d - 1)
    have h2 := ihr d
    simp only [cntF, F.sz]
    split <;> omega

theorem nil_of_len {f : F} (h : f.len = 0) : f = .nil := by
  cases f with
  | nil => rfl
  | cons => simp [F.len] at h

theorem cntF_of_vld : ∀ (f : F) (b u d : Int), vldF f b u d = true → cntF f d = f.sz := by
  intro f
  induction f with
  | nil => intro b u d _; rfl
  | cons lab k fr to ix kids rest ihk ihr =>
    intro b u d h
    simp only [vldF, Bool.and_eq_true] at h
    obtain ⟨hn, hr⟩ := h
    simp only [cntF, F.sz]
    rw [ihr b u d hr]
    simp only [nodeB, Bool.and_eq_true, decide_eq_true_eq] at hn
    obtain ⟨⟨hd, _⟩, hk⟩ := hn
    rw [if_pos (by omega)]
    have key : cntF kids (d - 1) = kids.sz := by
      split at hk
      · have e : kids = .nil := nil_of_len (by simpa using hk)
        rw [e]; rfl
      · split at hk
        · simp only [Bool.and_eq_true, decide_eq_true_eq] at hk
          have e : kids = .nil := nil_of_len hk.1.1
          rw [e]; rfl
        · split at hk
          · simp only [Bool.and_eq_true] at hk
            exact ihk _ _ _ hk.2
          · split at hk
            · simp only [Bool.and_eq_true] at hk
              exact ihk _ _ _ hk.2
            · cases hk
    rw [key]
    omega

theorem cntN_of_vld {k : Int} {fr to : ByteArray} {ix : Int} {kids : F} {b u d : Int} (h : vldN k fr to ix kids b u d = true) : cntN kids d = kids.sz + 1 := by
  have := cntF_of_vld (.cons ⟨#[]⟩ k fr to ix kids .nil) b u d (by simp only [vldF, Bool.and_true]; exact h)
  simp only [cntF, F.sz] at this
  unfold cntN
  omega

/-- The fields fit the kind; of the nodes below nothing is said. -/
def shapeB (k : Int) (fr to : ByteArray) (ix : Int) (kids : F) : Bool :=
  if k = 1 then fr.toList.isEmpty && to.toList.isEmpty && ix == 0 && decide (kids.len = 0)
  else if k = 2 then roleB fr && roleB to && !(fr.toList == to.toList) && ix == 0 && branchesB kids
  else if k = 3 then fr.toList.isEmpty && to.toList.isEmpty && ix == 0 && decide (kids.len = 1) && bareB kids
  else if k = 4 then fr.toList.isEmpty && to.toList.isEmpty && decide (0 ≤ ix) && decide (kids.len = 0) else false

theorem nodeB_shape (k : Int) (fr to : ByteArray) (ix : Int) (kids : F) (b u d : Int) (hu : 0 ≤ u) (vr vm : Bool) : nodeB k fr to ix kids b u d vr vm =
    (decide (1 ≤ d) && shapeB k fr to ix kids && (if k = 4 then decide (u ≤ ix) && decide (ix < b) else if k = 3 then vr else if k = 2 then vm else true)) := by
  unfold nodeB shapeB fieldsB
  by_cases h1 : k = 1
  · subst h1
    simp [Bool.and_assoc]
  · by_cases h4 : k = 4
    · subst h4
      simp only [if_neg (show ¬ (4 : Int) = 1 by decide), if_neg (show ¬ (4 : Int) = 2 by decide), if_neg (show ¬ (4 : Int) = 3 by decide)]
      by_cases h : u ≤ ix
      · rw [decide_eq_true h, decide_eq_true (show 0 ≤ ix by omega)]
        simp [Bool.and_assoc]
      · rw [decide_eq_false h]
        simp
    · by_cases h3 : k = 3
      · subst h3
        simp [Bool.and_assoc]
      · by_cases h2 : k = 2
        · subst h2
          simp only [if_neg (show ¬ (2 : Int) = 1 by decide), if_neg (show ¬ (2 : Int) = 4 by decide), if_neg (show ¬ (2 : Int) = 3 by decide)]
          generalize roleB fr = x1
          generalize roleB to = x2
          generalize (fr.toList == to.toList) = x3
          generalize branchesB kids = x4
          generalize (ix == 0) = x5
          cases x1 <;> cases x2 <;> cases x3 <;> cases x4 <;> cases x5 <;> cases vm <;> simp
        · simp [h1, h2, h3, h4]

/-- A valid root. -/
def okN (k : Int) (fr to : ByteArray) (ix : Int) (kids : F) : Bool := vldN k fr to ix kids 0 0 40 && decide (kids.sz + 1 ≤ 400)
/-- The number of nodes of a valid root, or 0. -/
def nodesN (k : Int) (fr to : ByteArray) (ix : Int) (kids : F) : Nat := if okN k fr to ix kids then kids.sz + 1 else 0

end Go.Proofs.YtfppglfajbmapaaDoor
