/- Equality of the program's trees is equality; for valid closed types it is equality of the texts. -/
import Derived.Test.YtfppglfajbmapaaDoorOi
import Derived.Test.YtfppglfajbmapaaDoorQh
namespace Go.Proofs.YtfppglfajbmapaaDoor
open Go.RowKit

theorem head_eq {k ix k' ix' : Int} {fr tg fr' tg' : ByteArray} {l l' : Nat} (h : headB k fr tg ix l k' fr' tg' ix' l' = true) : k = k' ∧ fr = fr' ∧ tg = tg' ∧ ix = ix' := by
  unfold headB at h
  simp only [Bool.and_eq_true, beq_iff_eq, ByteArray.toList_eq] at h
  obtain ⟨h1, h2, h3, h4, -⟩ := h
  exact ⟨h1, bl_ext h2, bl_ext h3, h4⟩
theorem sameF_eq : ∀ f g : F, sameF f g = true → f = g := by
  intro f
  induction f with
  | nil => intro g h; cases g with | nil => rfl | cons => simp [sameF] at h
  | cons lab k fr tg ix kids rest ihk ihr =>
    intro g h
    cases g with
    | nil => simp [sameF] at h
    | cons lab' k' fr' tg' ix' kids' rest' =>
      simp only [sameF, Bool.and_eq_true, beq_iff_eq, ByteArray.toList_eq] at h
      obtain ⟨h1, ⟨h2, h3⟩, h4⟩ := h
      obtain ⟨rfl, rfl, rfl, rfl⟩ := head_eq h2
      rw [bl_ext h1, ihk _ h3, ihr _ h4]
theorem sameF_rf : ∀ f : F, sameF f f = true
  | .nil => rfl
  | .cons lab k fr tg ix kids rest => by simp [sameF, headB, sameF_rf kids, sameF_rf rest]
theorem sameN_rf (g : Nd) : sameN g.k g.fr g.tg g.ix g.kids g.k g.fr g.tg g.ix g.kids = true := by
  unfold sameN
  rw [sameF_rf]
  simp [headB]
theorem sameN_eq {a b : Nd} : sameN a.k a.fr a.tg a.ix a.kids b.k b.fr b.tg b.ix b.kids = true ↔ a = b := by
  constructor
  · intro h
    unfold sameN at h
    simp only [Bool.and_eq_true] at h
    obtain ⟨q1, q2, q3, q4⟩ := head_eq h.1
    have q5 := sameF_eq _ _ h.2
    cases a; cases b
    simp only at q1 q2 q3 q4 q5
    subst q1 q2 q3 q4 q5
    rfl
  · rintro rfl
    exact sameN_rf a
theorem sameN_sym (a b : Nd) : sameN a.k a.fr a.tg a.ix a.kids b.k b.fr b.tg b.ix b.kids = sameN b.k b.fr b.tg b.ix b.kids a.k a.fr a.tg a.ix a.kids := by
  rw [Bool.eq_iff_iff, sameN_eq, sameN_eq]
  exact ⟨Eq.symm, Eq.symm⟩
end Go.Proofs.YtfppglfajbmapaaDoor
