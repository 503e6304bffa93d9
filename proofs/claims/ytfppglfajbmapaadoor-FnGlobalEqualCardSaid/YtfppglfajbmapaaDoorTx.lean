/- The text of a valid tree. -/
import Derived.Test.YtfppglfajbmapaaDoorVal
import Derived.Lib.ItoaNum
import Derived.Lib.AppendStr
namespace Go.Proofs.YtfppglfajbmapaaDoor
open Go.RowKit

def bdot : ByteArray := ⟨#[46]⟩
def bhash : ByteArray := ⟨#[35]⟩
def bat : ByteArray := ⟨#[64]⟩
def bopen : ByteArray := ⟨#[123]⟩
def bbar : ByteArray := ⟨#[124]⟩
def bclose : ByteArray := ⟨#[125]⟩
def bdec (ix : Int) : ByteArray := ⟨(Lib.decDigits ix.toNat).toArray⟩

/-- The text of a node, the texts of its branches and of its body given. -/
def nodeT (k : Int) (fr to : ByteArray) (ix : Int) (tb tr : ByteArray) : ByteArray :=
  if k = 1 then bdot else if k = 4 then bhash ++ bdec ix else if k = 3 then bat ++ tr else fr ++ to ++ tb ++ bclose

/-- Which text of a list is meant: that of all branches, the first of them behind a brace; that of branches behind a bar; that of the first one's node alone. -/
inductive Md where
  | first | more | body

def txF : F → Md → ByteArray
  | .nil, _ => ⟨#[]⟩
  | .cons lab k fr to ix kids rest, m =>
    match m with
    | .body => nodeT k fr to ix (txF kids .first) (txF kids .body)
    | .first => bopen ++ lab ++ nodeT k fr to ix (txF kids .first) (txF kids .body) ++ txF rest .more
    | .more => bbar ++ lab ++ nodeT k fr to ix (txF kids .first) (txF kids .body) ++ txF rest .more
def txN (k : Int) (fr to : ByteArray) (ix : Int) (kids : F) : ByteArray := nodeT k fr to ix (txF kids .first) (txF kids .body)

theorem bytes_assoc (a b c : ByteArray) : a ++ b ++ c = a ++ (b ++ c) := ByteArray.append_assoc
theorem bytes_nil (a : ByteArray) : a ++ ⟨#[]⟩ = a := by
  show a ++ ByteArray.empty = a
  exact ByteArray.append_empty
theorem strCells_append (a b : ByteArray) : Lib.strCells (a ++ b) = Lib.strCells a ++ Lib.strCells b := by
  simp [Lib.strCells, ByteArray.data_append]

theorem decDigits_small {i : Nat} (h : i < 40) : (Lib.decDigits i).length ≤ 2 := by
  unfold Lib.decDigits
  split
  · simp
  · rw [List.length_append]
    unfold Lib.decDigits
    rw [dif_pos (by omega)]
    simp

theorem toList_length (s : ByteArray) : s.toList.length = s.size := by
  rw [ByteArray.toList_eq]
  rfl
theorem role_size {s : ByteArray} (h : roleB s = true) : s.size = 1 := by
  have h2 : s.toList.length = 1 := by
    simp only [roleB, Bool.or_eq_true, beq_iff_eq] at h
    rcases h with (h | h) | h <;> rw [h] <;> rfl
  rw [← h2]
  exact (toList_length s).symm
theorem lab_size {s : ByteArray} (h : labB s = true) : s.size = 1 := by
  unfold labB at h
  split at h
  · rename_i c e
    have : s.data.toList.length = 1 := by rw [e]; rfl
    rw [← toList_length, ByteArray.toList_eq]
    exact this
  · cases h

/-- A valid node's kinds. -/
theorem node_kinds {k : Int} {fr to : ByteArray} {ix : Int} {kids : F} {b u d : Int} {vr vm : Bool} (hu : 0 ≤ u) (h : nodeB k fr to ix kids b u d vr vm = true) :
    1 ≤ d ∧ shapeB k fr to ix kids = true ∧ (k = 1 ∨ (k = 4 ∧ 0 ≤ ix ∧ ix < b ∧ kids = .nil) ∨ (k = 3 ∧ vr = true) ∨ (k = 2 ∧ vm = true)) := by
  rw [nodeB_shape _ _ _ _ _ _ _ _ hu] at h
  simp only [Bool.and_eq_true, decide_eq_true_eq] at h
  obtain ⟨⟨h1, h2⟩, h3⟩ := h
  refine ⟨h1, h2, ?_⟩
  by_cases k1 : k = 1
  · exact Or.inl k1
  by_cases k4 : k = 4
  · subst k4
    simp only [if_pos, Bool.and_eq_true, decide_eq_true_eq] at h3
    refine Or.inr (Or.inl ⟨rfl, by omega, h3.2, ?_⟩)
    have h4 : (fr.toList.isEmpty && to.toList.isEmpty && decide (0 ≤ ix) && decide (kids.len = 0)) = true := h2
    simp only [Bool.and_eq_true, decide_eq_true_eq] at h4
    exact nil_of_len h4.2
  by_cases k3 : k = 3
  · subst k3
    exact Or.inr (Or.inr (Or.inl ⟨rfl, by simpa using h3⟩))
  by_cases k2 : k = 2
  · subst k2
    exact Or.inr (Or.inr (Or.inr ⟨rfl, by simpa using h3⟩))
  simp [shapeB, k1, k2, k3, k4] at h2

theorem asc_labels : ∀ (f : F) (p : Option ByteArray) (lab : ByteArray) (k : Int) (fr to : ByteArray) (ix : Int) (kids rest : F), f = .cons lab k fr to ix kids rest → ascB p f = true → labB lab = true ∧ ascB (some lab) rest = true := by
  rintro f p lab k fr to ix kids rest rfl h
  simp only [ascB, Bool.and_eq_true] at h
  exact ⟨h.1.1, h.2⟩

/-- The labels of the list are of one letter each. -/
def oneF : F → Prop
  | .nil => True
  | .cons lab _ _ _ _ _ rest => lab.size = 1 ∧ oneF rest
theorem oneF_of_asc : ∀ (f : F) (p : Option ByteArray), ascB p f = true → oneF f := by
  intro f
  induction f with
  | nil => intro p _; trivial
  | cons lab k fr to ix kids rest _ ihr =>
    intro p h
    simp only [ascB, Bool.and_eq_true] at h
    exact ⟨lab_size h.1.1, ihr _ h.2⟩

theorem nodeT_size {k : Int} {fr to : ByteArray} {ix : Int} {kids : F} {b u d : Int} (hb : 0 ≤ b) (hu : 0 ≤ u) (hbd : b + d ≤ 40)
    (ih : ∀ (b u d : Int), 0 ≤ b → 0 ≤ u → b + d ≤ 40 → vldF kids b u d = true → (oneF kids → (txF kids .first).size ≤ 5 * kids.sz) ∧ (txF kids .body).size ≤ 3 + 5 * kids.sz ∧ (kids ≠ .nil → (txF kids .body).size + 2 ≤ 5 * kids.sz))
    (h : vldN k fr to ix kids b u d = true) : (txN k fr to ix kids).size ≤ 3 + 5 * kids.sz := by
  unfold vldN at h
  obtain ⟨hd, hsh, hk⟩ := node_kinds hu h
  unfold txN nodeT
  rcases hk with rfl | ⟨rfl, h0, h1, rfl⟩ | ⟨rfl, hv⟩ | ⟨rfl, hv⟩
  · rw [if_pos rfl]
    show 1 ≤ _
    omega
  · rw [if_neg (by decide), if_pos rfl, ByteArray.size_append]
    have h2 : (bdec ix).size = (Lib.decDigits ix.toNat).length := by simp [bdec, ByteArray.size]
    have h3 : (Lib.decDigits ix.toNat).length ≤ 2 := decDigits_small (by omega)
    have h4 : bhash.size = 1 := rfl
    omega
  · rw [if_neg (by decide), if_neg (by decide), if_pos rfl, ByteArray.size_append]
    have h4 : bat.size = 1 := rfl
    have hl : kids ≠ .nil := by
      rintro rfl
      simp [shapeB, F.len] at hsh
    have := (ih (b + 1) (u + 1) (d - 1) (by omega) (by omega) (by omega) hv).2.2 hl
    omega
  · rw [if_neg (by decide), if_neg (by decide), if_neg (by decide), ByteArray.size_append, ByteArray.size_append, ByteArray.size_append]
    have h4 : bclose.size = 1 := rfl
    have hs : (roleB fr && roleB to && !(fr.toList == to.toList) && ix == 0 && branchesB kids) = true := hsh
    simp only [Bool.and_eq_true] at hs
    have h5 := role_size hs.1.1.1.1
    have h6 := role_size hs.1.1.1.2
    have hbr := hs.2
    unfold branchesB at hbr
    simp only [Bool.and_eq_true] at hbr
    have := (ih b 0 (d - 1) hb (by omega) (by omega) hv).1 (oneF_of_asc _ _ hbr.1)
    omega

theorem txF_size : ∀ (f : F) (b u d : Int), 0 ≤ b → 0 ≤ u → b + d ≤ 40 → vldF f b u d = true →
    (oneF f → (txF f .first).size ≤ 5 * f.sz) ∧ (txF f .body).size ≤ 3 + 5 * f.sz ∧ (f ≠ .nil → (txF f .body).size + 2 ≤ 5 * f.sz) ∧ (oneF f → (txF f .more).size ≤ 5 * f.sz) := by
  intro f
  induction f with
  | nil =>
    intro b u d _ _ _ _
    exact ⟨fun _ => Nat.le_refl _, Nat.zero_le _, fun h => absurd rfl h, fun _ => Nat.le_refl _⟩
  | cons lab k fr to ix kids rest ihk ihr =>
    intro b u d hb hu hbd h
    simp only [vldF, Bool.and_eq_true] at h
    obtain ⟨hn, hr⟩ := h
    have hT := nodeT_size hb hu hbd (fun b' u' d' h1 h2 h3 h4 => ⟨(ihk b' u' d' h1 h2 h3 h4).1, (ihk b' u' d' h1 h2 h3 h4).2.1, (ihk b' u' d' h1 h2 h3 h4).2.2.1⟩) hn
    have hR := (ihr b u d hb hu hbd hr).2.2.2
    have h1 : bopen.size = 1 := rfl
    have h2 : bbar.size = 1 := rfl
    have hB : txF (.cons lab k fr to ix kids rest) .body = txN k fr to ix kids := rfl
    have hF : txF (.cons lab k fr to ix kids rest) .first = bopen ++ lab ++ txN k fr to ix kids ++ txF rest .more := rfl
    have hM : txF (.cons lab k fr to ix kids rest) .more = bbar ++ lab ++ txN k fr to ix kids ++ txF rest .more := rfl
    rw [hB, hF, hM]
    simp only [ByteArray.size_append, F.sz]
    refine ⟨fun ho => ?_, by omega, fun _ => by omega, fun ho => ?_⟩
    · have h5 := ho.1
      have := hR ho.2
      omega
    · have h5 := ho.1
      have := hR ho.2
      omega
theorem txN_size {k : Int} {fr to : ByteArray} {ix : Int} {kids : F} {b u d : Int} (hb : 0 ≤ b) (hu : 0 ≤ u) (hbd : b + d ≤ 40) (h : vldN k fr to ix kids b u d = true) :
    (txN k fr to ix kids).size ≤ 3 + 5 * kids.sz :=
  nodeT_size hb hu hbd (fun b' u' d' h1 h2 h3 h4 => ⟨(txF_size kids b' u' d' h1 h2 h3 h4).1, (txF_size kids b' u' d' h1 h2 h3 h4).2.1, (txF_size kids b' u' d' h1 h2 h3 h4).2.2.1⟩) h

def md (k : Nat) : Md := if k = 0 then .first else .more
def sepB (k : Nat) : ByteArray := if k = 0 then bopen else bbar
theorem txF_md (lab : ByteArray) (k : Int) (fr to : ByteArray) (ix : Int) (kids rest : F) (i : Nat) : txF (.cons lab k fr to ix kids rest) (md i) = sepB i ++ lab ++ txN k fr to ix kids ++ txF rest (md (i + 1)) := by
  have h2 : md (i + 1) = .more := if_neg (by omega)
  rw [h2]
  unfold md sepB
  split <;> rfl
theorem sepB_size (i : Nat) : (sepB i).size = 1 := by unfold sepB; split <;> rfl

/-- The text that FormatGlobal gives. -/
def textN (k : Int) (fr to : ByteArray) (ix : Int) (kids : F) : ByteArray := if okN k fr to ix kids then txN k fr to ix kids else ⟨#[]⟩

end Go.Proofs.YtfppglfajbmapaaDoor
