/- The text of a valid local type. -/
import Derived.Test.YtfppglfajbmapaaDoorLVal
import Derived.Test.YtfppglfajbmapaaDoorTx
namespace Go.Proofs.YtfppglfajbmapaaDoor.Lo
open Go.RowKit

/-- Send or receive. -/
def mark (k : Int) : ByteArray := if k = 2 then ⟨#[33]⟩ else ⟨#[63]⟩
theorem mark_size (k : Int) : (mark k).size = 1 := by unfold mark; split <;> rfl

/-- The text of a node, the texts of its branches and of its body given. -/
def nodeT (k : Int) (fr : ByteArray) (ix : Int) (tb tr : ByteArray) : ByteArray :=
  if k = 1 then bdot else if k = 5 then bhash ++ bdec ix else if k = 4 then bat ++ tr else fr ++ mark k ++ tb ++ bclose

def txF : F → Md → ByteArray
  | .nil, _ => ⟨#[]⟩
  | .cons lab k fr ix kids rest, m =>
    match m with
    | .body => nodeT k fr ix (txF kids .first) (txF kids .body)
    | .first => bopen ++ lab ++ nodeT k fr ix (txF kids .first) (txF kids .body) ++ txF rest .more
    | .more => bbar ++ lab ++ nodeT k fr ix (txF kids .first) (txF kids .body) ++ txF rest .more
def txN (k : Int) (fr : ByteArray) (ix : Int) (kids : F) : ByteArray := nodeT k fr ix (txF kids .first) (txF kids .body)

/-- A valid node's kinds. -/
theorem node_kinds {k : Int} {fr : ByteArray} {ix : Int} {kids : F} {b u d : Int} {vr va : Bool} (hu : 0 ≤ u) (h : nodeB k fr ix kids b u d vr va = true) :
    1 ≤ d ∧ shapeB k fr ix kids = true ∧ (k = 1 ∨ (k = 5 ∧ 0 ≤ ix ∧ ix < b ∧ kids = .nil) ∨ (k = 4 ∧ vr = true) ∨ ((k = 2 ∨ k = 3) ∧ va = true)) := by
  rw [nodeB_shape] at h
  simp only [Bool.and_eq_true, decide_eq_true_eq] at h
  obtain ⟨⟨h1, h2⟩, h3⟩ := h
  refine ⟨h1, h2, ?_⟩
  by_cases k1 : k = 1
  · exact Or.inl k1
  by_cases k5 : k = 5
  · subst k5
    simp only [if_pos, Bool.and_eq_true, decide_eq_true_eq] at h3
    refine Or.inr (Or.inl ⟨rfl, by omega, h3.2, ?_⟩)
    have h4 : (fr.toList.isEmpty && decide (kids.len = 0)) = true := h2
    simp only [Bool.and_eq_true, decide_eq_true_eq] at h4
    exact nil_of_len h4.2
  by_cases k4 : k = 4
  · subst k4
    exact Or.inr (Or.inr (Or.inl ⟨rfl, by simpa using h3⟩))
  by_cases k2 : k = 2 ∨ k = 3
  · rw [if_neg k5, if_neg k4, if_pos k2] at h3
    exact Or.inr (Or.inr (Or.inr ⟨k2, h3⟩))
  simp [shapeB, k1, k2, k4, k5] at h2

theorem shape_act {k : Int} {fr : ByteArray} {ix : Int} {kids : F} (hk : k = 2 ∨ k = 3) (h : shapeB k fr ix kids = true) : roleB fr = true ∧ ix = 0 ∧ branchesB kids = true := by
  have h' : (roleB fr && ix == 0 && branchesB kids) = true := by
    rcases hk with rfl | rfl <;> exact h
  simp only [Bool.and_eq_true, beq_iff_eq] at h'
  exact ⟨h'.1.1, h'.1.2, h'.2⟩
theorem shape_end {fr : ByteArray} {ix : Int} {kids : F} (h : shapeB 1 fr ix kids = true) : fr.toList = [] ∧ ix = 0 ∧ kids = .nil := by
  have h' : (fr.toList.isEmpty && ix == 0 && decide (kids.len = 0)) = true := h
  simp only [Bool.and_eq_true, List.isEmpty_iff, beq_iff_eq, decide_eq_true_eq] at h'
  exact ⟨h'.1.1, h'.1.2, nil_of_len h'.2⟩
theorem shape_var {fr : ByteArray} {ix : Int} {kids : F} (h : shapeB 5 fr ix kids = true) : fr.toList = [] ∧ kids = .nil := by
  have h' : (fr.toList.isEmpty && decide (kids.len = 0)) = true := h
  simp only [Bool.and_eq_true, List.isEmpty_iff, decide_eq_true_eq] at h'
  exact ⟨h'.1, nil_of_len h'.2⟩
theorem shape_rec {fr : ByteArray} {ix : Int} {kids : F} (h : shapeB 4 fr ix kids = true) : fr.toList = [] ∧ ix = 0 ∧ ∃ lab k' fr' ix' kids', kids = .cons lab k' fr' ix' kids' .nil ∧ lab.toList = [] := by
  have h' : (fr.toList.isEmpty && ix == 0 && decide (kids.len = 1) && bareB kids) = true := h
  simp only [Bool.and_eq_true, List.isEmpty_iff, beq_iff_eq, decide_eq_true_eq] at h'
  refine ⟨h'.1.1.1, h'.1.1.2, ?_⟩
  obtain ⟨⟨-, hl⟩, hb⟩ := h'
  cases kids with
  | nil => simp [F.len] at hl
  | cons lab k' fr' ix' kids' rest =>
    have hr : rest = .nil := nil_of_len (by simp only [F.len] at hl; omega)
    subst hr
    exact ⟨lab, k', fr', ix', kids', rfl, List.isEmpty_iff.1 hb⟩

theorem asc_labels : ∀ (f : F) (p : Option ByteArray) (lab : ByteArray) (k : Int) (fr : ByteArray) (ix : Int) (kids rest : F), f = .cons lab k fr ix kids rest → ascB p f = true → labB lab = true ∧ ascB (some lab) rest = true := by
  rintro f p lab k fr ix kids rest rfl h
  simp only [ascB, Bool.and_eq_true] at h
  exact ⟨h.1.1, h.2⟩

/-- The labels of the list are of one letter each. -/
def oneF : F → Prop
  | .nil => True
  | .cons lab _ _ _ _ rest => lab.size = 1 ∧ oneF rest
theorem oneF_of_asc : ∀ (f : F) (p : Option ByteArray), ascB p f = true → oneF f := by
  intro f
  induction f with
  | nil => intro p _; trivial
  | cons lab k fr ix kids rest _ ihr =>
    intro p h
    simp only [ascB, Bool.and_eq_true] at h
    exact ⟨lab_size h.1.1, ihr _ h.2⟩

theorem nodeT_size {k : Int} {fr : ByteArray} {ix : Int} {kids : F} {b u d : Int} (hb : 0 ≤ b) (hu : 0 ≤ u) (hbd : b + d ≤ 40)
    (ih : ∀ (b u d : Int), 0 ≤ b → 0 ≤ u → b + d ≤ 40 → vldF kids b u d = true → (oneF kids → (txF kids .first).size ≤ 5 * kids.sz) ∧ (txF kids .body).size ≤ 3 + 5 * kids.sz ∧ (kids ≠ .nil → (txF kids .body).size + 2 ≤ 5 * kids.sz))
    (h : vldN k fr ix kids b u d = true) : (txN k fr ix kids).size ≤ 3 + 5 * kids.sz := by
  unfold vldN at h
  obtain ⟨hd, hsh, hk⟩ := node_kinds hu h
  unfold txN nodeT
  rcases hk with rfl | ⟨rfl, h0, h1, rfl⟩ | ⟨rfl, hv⟩ | ⟨hkk, hv⟩
  · rw [if_pos rfl]
    show 1 ≤ _
    omega
  · rw [if_neg (by decide), if_pos rfl, ByteArray.size_append]
    have h2 : (bdec ix).size = (Lib.decDigits ix.toNat).length := by simp [bdec, ByteArray.size]
    have h3 : (Lib.decDigits ix.toNat).length ≤ 2 := decDigits_small (by omega)
    have h4 : bhash.size = 1 := rfl
    omega
  · rw [if_neg (by decide), if_neg (by decide), if_pos rfl, ByteArray.size_append]
    have h4 : bat.size = 1 := rfl
    have hl : kids ≠ .nil := by
      rintro rfl
      simp [shapeB, F.len] at hsh
    have := (ih (b + 1) (u + 1) (d - 1) (by omega) (by omega) (by omega) hv).2.2 hl
    omega
  · rw [if_neg (by omega), if_neg (by omega), if_neg (by omega), ByteArray.size_append, ByteArray.size_append, ByteArray.size_append]
    have h4 : bclose.size = 1 := rfl
    obtain ⟨hs1, -, hbr⟩ := shape_act hkk hsh
    have h5 := role_size hs1
    have h6 := mark_size k
    unfold branchesB at hbr
    simp only [Bool.and_eq_true] at hbr
    have := (ih b 0 (d - 1) hb (by omega) (by omega) hv).1 (oneF_of_asc _ _ hbr.1)
    omega

theorem txF_size : ∀ (f : F) (b u d : Int), 0 ≤ b → 0 ≤ u → b + d ≤ 40 → vldF f b u d = true →
    (oneF f → (txF f .first).size ≤ 5 * f.sz) ∧ (txF f .body).size ≤ 3 + 5 * f.sz ∧ (f ≠ .nil → (txF f .body).size + 2 ≤ 5 * f.sz) ∧ (oneF f → (txF f .more).size ≤ 5 * f.sz) := by
  intro f
  induction f with
  | nil =>
    intro b u d _ _ _ _
    exact ⟨fun _ => Nat.le_refl _, Nat.zero_le _, fun h => absurd rfl h, fun _ => Nat.le_refl _⟩
  | cons lab k fr ix kids rest ihk ihr =>
    intro b u d hb hu hbd h
    simp only [vldF, Bool.and_eq_true] at h
    obtain ⟨hn, hr⟩ := h
    have hT := nodeT_size hb hu hbd (fun b' u' d' h1 h2 h3 h4 => ⟨(ihk b' u' d' h1 h2 h3 h4).1, (ihk b' u' d' h1 h2 h3 h4).2.1, (ihk b' u' d' h1 h2 h3 h4).2.2.1⟩) hn
    have hR := (ihr b u d hb hu hbd hr).2.2.2
    have h1 : bopen.size = 1 := rfl
    have h2 : bbar.size = 1 := rfl
    have hB : txF (.cons lab k fr ix kids rest) .body = txN k fr ix kids := rfl
    have hF : txF (.cons lab k fr ix kids rest) .first = bopen ++ lab ++ txN k fr ix kids ++ txF rest .more := rfl
    have hM : txF (.cons lab k fr ix kids rest) .more = bbar ++ lab ++ txN k fr ix kids ++ txF rest .more := rfl
    rw [hB, hF, hM]
    simp only [ByteArray.size_append, F.sz]
    refine ⟨fun ho => ?_, by omega, fun _ => by omega, fun ho => ?_⟩
    · have h5 := ho.1
      have := hR ho.2
      omega
    · have h5 := ho.1
      have := hR ho.2
      omega
theorem txN_size {k : Int} {fr : ByteArray} {ix : Int} {kids : F} {b u d : Int} (hb : 0 ≤ b) (hu : 0 ≤ u) (hbd : b + d ≤ 40) (h : vldN k fr ix kids b u d = true) :
    (txN k fr ix kids).size ≤ 3 + 5 * kids.sz :=
  nodeT_size hb hu hbd (fun b' u' d' h1 h2 h3 h4 => ⟨(txF_size kids b' u' d' h1 h2 h3 h4).1, (txF_size kids b' u' d' h1 h2 h3 h4).2.1, (txF_size kids b' u' d' h1 h2 h3 h4).2.2.1⟩) h

theorem txF_md (lab : ByteArray) (k : Int) (fr : ByteArray) (ix : Int) (kids rest : F) (i : Nat) : txF (.cons lab k fr ix kids rest) (md i) = sepB i ++ lab ++ txN k fr ix kids ++ txF rest (md (i + 1)) := by
  have h2 : md (i + 1) = .more := if_neg (by omega)
  rw [h2]
  unfold md sepB
  split <;> rfl
/-- The text that FormatLocal gives. -/
def textN (k : Int) (fr : ByteArray) (ix : Int) (kids : F) : ByteArray := if okN k fr ix kids then txN k fr ix kids else ⟨#[]⟩

end Go.Proofs.YtfppglfajbmapaaDoor.Lo
