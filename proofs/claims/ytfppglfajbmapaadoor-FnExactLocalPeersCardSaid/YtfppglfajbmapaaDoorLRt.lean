/- Which roles' letters lie in the text of a valid local type: those of its peers. -/
import Derived.Test.YtfppglfajbmapaaDoorLTx
import Derived.Test.YtfppglfajbmapaaDoorRl
namespace Go.Proofs.YtfppglfajbmapaaDoor.Lo
open Go.RowKit

/-- Some action of the list, or of the node, names the letter. -/
def namF (c : UInt8) : F → Prop
  | .nil => False
  | .cons _ k fr _ kids rest => ((k = 2 ∨ k = 3) ∧ inB c fr) ∨ namF c kids ∨ namF c rest
def namN (c : UInt8) (k : Int) (fr : ByteArray) (kids : F) : Prop := ((k = 2 ∨ k = 3) ∧ inB c fr) ∨ namF c kids

/-- All labels of the list are labels. -/
def labF : F → Prop
  | .nil => True
  | .cons lab _ _ _ _ rest => labB lab = true ∧ labF rest
theorem labF_of_asc : ∀ (f : F) (p : Option ByteArray), ascB p f = true → labF f := by
  intro f
  induction f with
  | nil => intro p _; trivial
  | cons lab k fr ix kids rest _ ihr =>
    intro p h
    simp only [ascB, Bool.and_eq_true] at h
    exact ⟨h.1.1, ihr _ h.2⟩

theorem nodeT_letters {c : UInt8} (h1 : 65 ≤ c.toNat) (h2 : c.toNat ≤ 67) {k : Int} {fr : ByteArray} {ix : Int} {kids : F} {b u d : Int} (hb : 0 ≤ b) (hu : 0 ≤ u) (hbd : b + d ≤ 40)
    (ih : ∀ (b u d : Int), 0 ≤ b → 0 ≤ u → b + d ≤ 40 → vldF kids b u d = true → (labF kids → (inB c (txF kids .first) ↔ namF c kids)) ∧ (kids.len = 1 → (inB c (txF kids .body) ↔ namF c kids)))
    (h : vldN k fr ix kids b u d = true) : inB c (txN k fr ix kids) ↔ namN c k fr kids := by
  unfold vldN at h
  obtain ⟨hd, hsh, hk⟩ := node_kinds hu h
  unfold txN nodeT namN
  rcases hk with rfl | ⟨rfl, h0, h3, rfl⟩ | ⟨rfl, hv⟩ | ⟨hkk, hv⟩
  · rw [if_pos rfl]
    have hkn := (shape_end hsh).2.2
    subst hkn
    have := sign_letters h1 h2 46 (by decide)
    simp only [namF]
    constructor
    · intro hm; exact (this hm).elim
    · rintro (⟨h, -⟩ | h)
      · exact absurd h (by decide)
      · exact h.elim
  · rw [if_neg (by decide), if_pos rfl, inB_append]
    have e1 := sign_letters h1 h2 35 (by decide)
    have e2 : ¬ inB c (bdec ix) := by
      intro hm
      exact dec_letters (i := ix.toNat) (by omega) h1 (by simpa [inB, bdec] using hm)
    simp only [namF]
    constructor
    · rintro (hm | hm)
      · exact (e1 hm).elim
      · exact (e2 hm).elim
    · rintro (⟨h, -⟩ | h)
      · exact absurd h (by decide)
      · exact h.elim
  · rw [if_neg (by decide), if_neg (by decide), if_pos rfl, inB_append]
    have e1 := sign_letters h1 h2 64 (by decide)
    obtain ⟨-, -, lab, k', fr', ix', kids', rfl, -⟩ := shape_rec hsh
    have := (ih (b + 1) (u + 1) (d - 1) (by omega) (by omega) (by omega) hv).2 rfl
    rw [this]
    constructor
    · rintro (hm | hm)
      · exact (e1 hm).elim
      · exact Or.inr hm
    · rintro (⟨h, -⟩ | h)
      · exact absurd h (by decide)
      · exact Or.inr h
  · rw [if_neg (by omega), if_neg (by omega), if_neg (by omega), inB_append, inB_append, inB_append]
    have e1 := sign_letters h1 h2 125 (by decide)
    have e3 : ¬ inB c (mark k) := by
      unfold mark
      split
      · exact sign_letters h1 h2 33 (by decide)
      · exact sign_letters h1 h2 63 (by decide)
    have hbr := (shape_act hkk hsh).2.2
    unfold branchesB at hbr
    simp only [Bool.and_eq_true] at hbr
    have := (ih b 0 (d - 1) hb (by omega) (by omega) hv).1 (labF_of_asc _ _ hbr.1)
    rw [this]
    constructor
    · rintro (((hm | hm) | hm) | hm)
      · exact Or.inl ⟨hkk, hm⟩
      · exact (e3 hm).elim
      · exact Or.inr hm
      · exact (e1 hm).elim
    · rintro (⟨-, h⟩ | h)
      · exact Or.inl (Or.inl (Or.inl h))
      · exact Or.inl (Or.inr h)

theorem txF_letters {c : UInt8} (h1 : 65 ≤ c.toNat) (h2 : c.toNat ≤ 67) : ∀ (f : F) (b u d : Int), 0 ≤ b → 0 ≤ u → b + d ≤ 40 → vldF f b u d = true →
    (labF f → ∀ i, (inB c (txF f (md i)) ↔ namF c f)) ∧ (f.len = 1 → (inB c (txF f .body) ↔ namF c f)) := by
  intro f
  induction f with
  | nil =>
    intro b u d _ _ _ _
    refine ⟨fun _ i => ?_, fun h => by simp [F.len] at h⟩
    have : txF F.nil (md i) = ⟨#[]⟩ := rfl
    rw [this]
    simp [inB, namF]
  | cons lab k fr ix kids rest ihk ihr =>
    intro b u d hb hu hbd h
    simp only [vldF, Bool.and_eq_true] at h
    obtain ⟨hn, hr⟩ := h
    have hT := nodeT_letters h1 h2 hb hu hbd (fun b' u' d' g1 g2 g3 g4 => ⟨fun hl => (ihk b' u' d' g1 g2 g3 g4).1 hl 0, (ihk b' u' d' g1 g2 g3 g4).2⟩) hn
    unfold namN at hT
    constructor
    · rintro ⟨hl, hl2⟩ i
      have hR := (ihr b u d hb hu hbd hr).1 hl2 (i + 1)
      have e1 : ¬ inB c (sepB i) := by
        unfold sepB
        split
        · exact sign_letters h1 h2 123 (by decide)
        · exact sign_letters h1 h2 124 (by decide)
      have e2 := lab_letters hl h2
      rw [txF_md, inB_append, inB_append, inB_append, hR, hT]
      simp only [namF]
      constructor
      · rintro (((hm | hm) | (hm | hm)) | hm)
        · exact (e1 hm).elim
        · exact (e2 hm).elim
        · exact Or.inl hm
        · exact Or.inr (Or.inl hm)
        · exact Or.inr (Or.inr hm)
      · rintro (hm | hm | hm)
        · exact Or.inl (Or.inr (Or.inl hm))
        · exact Or.inl (Or.inr (Or.inr hm))
        · exact Or.inr hm
    · intro hl
      have hr0 : rest = .nil := nil_of_len (by simp only [F.len] at hl; omega)
      subst hr0
      have hB : txF (.cons lab k fr ix kids .nil) .body = txN k fr ix kids := rfl
      rw [hB, hT]
      simp only [namF, or_false]

/-- A role's letter lies in the text of a valid node just if a message names it. -/
theorem txN_letters {c : UInt8} (h1 : 65 ≤ c.toNat) (h2 : c.toNat ≤ 67) {k : Int} {fr : ByteArray} {ix : Int} {kids : F} {b u d : Int} (hb : 0 ≤ b) (hu : 0 ≤ u) (hbd : b + d ≤ 40) (h : vldN k fr ix kids b u d = true) :
    inB c (txN k fr ix kids) ↔ namN c k fr kids :=
  nodeT_letters h1 h2 hb hu hbd (fun b' u' d' g1 g2 g3 g4 => ⟨fun hl => (txF_letters h1 h2 kids b' u' d' g1 g2 g3 g4).1 hl 0, (txF_letters h1 h2 kids b' u' d' g1 g2 g3 g4).2⟩) h
end Go.Proofs.YtfppglfajbmapaaDoor.Lo
