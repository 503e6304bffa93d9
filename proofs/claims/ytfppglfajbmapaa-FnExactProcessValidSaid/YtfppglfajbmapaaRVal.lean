/- Which processes are valid, in plain words; heights and counts. -/
import Derived.Test.YtfppglfajbmapaaRTree
import Derived.Test.YtfppglfajbmapaaVal
import Derived.Laws.Strings
namespace Go.Proofs.Ytfppglfajbmapaa.Pc
open Go.RowKit

/-- The fields that the kind does not use. -/
def fieldsB (k : Int) (fr to : ByteArray) (ix : Int) : Bool := (k == 2 || k == 3 || fr.toList.isEmpty) && (k == 2 || to.toList.isEmpty) && (k == 6 || ix == 0)
/-- Labels that ascend. -/
def ascB : Option ByteArray → F → Bool
  | _, .nil => true
  | p, .cons lab _ _ _ _ _ rest => labB lab && (match p with | none => true | some q => Op.bytesLess q.toList lab.toList) && ascB (some lab) rest
def branchesB (kids : F) : Bool := ascB none kids && decide (1 ≤ kids.len ∧ kids.len ≤ 3)
/-- All labels are empty. -/
def bareF : F → Bool
  | .nil => true
  | .cons lab _ _ _ _ _ rest => lab.toList.isEmpty && bareF rest
def plainB (kids : F) (n : Nat) : Bool := bareF kids && decide (kids.len = n)
/-- The fields fit the kind; of the nodes below nothing is said. -/
def shapeB (k : Int) (fr to : ByteArray) (ix : Int) (kids : F) : Bool :=
  fieldsB k fr to ix &&
  (if k = 1 then plainB kids 0 else if k = 2 then roleB fr && labB to && plainB kids 1 else if k = 3 then roleB fr && branchesB kids
   else if k = 4 then plainB kids 2 else if k = 5 then plainB kids 1 else if k = 6 then plainB kids 0 else false)

/-- The loops around the branches, and those of them with no message in between. -/
def insB (k b : Int) : Int := if k = 5 then b + 1 else b
def insU (k u : Int) : Int := if k = 5 then u + 1 else if k = 2 ∨ k = 3 then 0 else u
/-- Every node of the list is valid below b loops, the innermost u of them unguarded. -/
def vldF : F → Int → Int → Bool
  | .nil, _, _ => true
  | .cons _ k fr to ix kids rest, b, u => (shapeB k fr to ix kids && (if k = 6 then decide (u ≤ ix) && decide (ix < b) else true) && vldF kids (insB k b) (insU k u)) && vldF rest b u
def vldN (k : Int) (fr to : ByteArray) (ix : Int) (kids : F) (b u : Int) : Bool :=
  shapeB k fr to ix kids && (if k = 6 then decide (u ≤ ix) && decide (ix < b) else true) && vldF kids (insB k b) (insU k u)
theorem vldF_cons (lab : ByteArray) (k : Int) (fr to : ByteArray) (ix : Int) (kids rest : F) (b u : Int) : vldF (.cons lab k fr to ix kids rest) b u = (vldN k fr to ix kids b u && vldF rest b u) := rfl

/-- The levels of a list. -/
def hF : F → Nat
  | .nil => 0
  | .cons _ _ _ _ _ kids rest => max (1 + hF kids) (hF rest)
theorem hF_sz : ∀ f : F, hF f ≤ f.sz
  | .nil => Nat.le_refl _
  | .cons _ _ _ _ _ kids rest => by
    have h1 := hF_sz kids
    have h2 := hF_sz rest
    simp only [hF, F.sz]
    omega
/-- The nodes down to a depth. -/
def cntF : F → Int → Nat
  | .nil, _ => 0
  | .cons _ _ _ _ _ kids rest, d => 1 + (if 0 < d then cntF kids (d - 1) else 0) + cntF rest d
def cntN (kids : F) (d : Int) : Nat := 1 + if 0 < d then cntF kids (d - 1) else 0
theorem cntF_le : ∀ (f : F) (d : Int), cntF f d ≤ f.sz := by
  intro f
  induction f with
  | nil => intro d; exact Nat.le_refl _
  | cons lab k fr to ix kids rest ihk ihr =>
    intro d
    have h1 := ihk (d - 1)
    have h2 := ihr d
    simp only [cntF, F.sz]
    split <;> omega
theorem nil_of_len {f : F} (h : f.len = 0) : f = .nil := by
  cases f with
  | nil => rfl
  | cons => simp [F.len] at h
theorem cntF_of_h : ∀ (f : F) (d : Int), (hF f : Int) ≤ d → cntF f d = f.sz := by
  intro f
  induction f with
  | nil => intro d _; rfl
  | cons lab k fr to ix kids rest ihk ihr =>
    intro d h
    simp only [hF] at h
    simp only [cntF, F.sz]
    rw [ihr d (by omega), if_pos (by omega), ihk (d - 1) (by omega)]
    omega
theorem cntN_of_h {kids : F} {d : Int} (h : ((1 + hF kids : Nat) : Int) ≤ d) : cntN kids d = kids.sz + 1 := by
  unfold cntN
  rw [if_pos (by omega), cntF_of_h kids (d - 1) (by omega)]
  omega

/-- A valid process. -/
def okN (k : Int) (fr to : ByteArray) (ix : Int) (kids : F) : Bool := vldN k fr to ix kids 0 0 && decide (kids.sz + 1 ≤ 40)
theorem okN_model (k : Int) (fr to : ByteArray) (ix : Int) (kids : F) :
    (vldN k fr to ix kids 0 0 && decide (((1 + hF kids : Nat) : Int) ≤ 40) && decide ((cntN kids 40 : Int) ≤ 40)) = okN k fr to ix kids := by
  unfold okN
  cases vldN k fr to ix kids 0 0 with
  | false => rfl
  | true =>
    simp only [Bool.true_and]
    have h := hF_sz kids
    by_cases h1 : ((1 + hF kids : Nat) : Int) ≤ 40
    · rw [decide_eq_true h1, Bool.true_and, cntN_of_h h1]
      exact decide_eq_decide.2 (by omega)
    · rw [decide_eq_false h1, Bool.false_and]
      exact (decide_eq_false (by omega)).symm
end Go.Proofs.Ytfppglfajbmapaa.Pc
