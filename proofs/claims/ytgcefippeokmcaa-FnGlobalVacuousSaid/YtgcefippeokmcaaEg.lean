/- The environment grows by one entry: in new memory, or in the room behind its end. -/
import Derived.Test.YtgcefippeokmcaaEv
import Derived.Test.YtgcefippeokmcaaRows
import Derived.ArgAppend
import Derived.WalkLawsBesides
namespace Go.Proofs.Ytgcefippeokmcaa
open Go.RowKit

theorem copierInfo : (Try.prog.info? ( /- t -/ 70)).map (fun i => (i.zero, i.size, i.bytes)) = some (some .nilFunc, 1, 8) := by kernel_rfl

/-- Every place of the environment is there. -/
theorem EnvIs.cellAt {W0 w : World} {c : Nat} {s : List (Option Nd)} {b cap : Nat} (h : EnvIs W0 w c s (.slice (some ⟨b, 0, none⟩) s.length cap)) (j : Nat) (hj : j < s.length) :
    ∃ v, w.cell? ⟨b, j, none⟩ = some v ∧ (v = .nilFunc ∨ ∃ rb ob, v = cloV rb ob c) := by
  obtain ⟨p, x, t, hs, hp, hx⟩ := EnvIs.at s b cap h (s.length - 1 - j) (by omega)
  have hl : t.length = j := by
    have e := congrArg List.length hs
    simp at e
    omega
  rw [hl] at hx
  cases x with
  | none => exact ⟨_, hx, Or.inl rfl⟩
  | some R =>
    obtain ⟨rb, ob, _, _, c0, _⟩ := hx
    exact ⟨_, c0, Or.inr ⟨_, _, rfl⟩⟩
/-- Its cells. -/
theorem EnvIs.olds {W0 w : World} {c : Nat} {s : List (Option Nd)} {a : Option Addr} {cap : Nat} (h : EnvIs W0 w c s (.slice a s.length cap)) :
    ∃ olds : List Value, olds.length = s.length ∧ ∀ b, a = some b → ∀ j u, olds[j]? = some u → w.cell? (b.add j) = some u := by
  cases hs : s with
  | nil => exact ⟨[], rfl, fun b _ j u hu => by simp at hu⟩
  | cons x t =>
    rw [hs] at h
    obtain ⟨b, cap', e, h1, h2, h3⟩ := id h
    simp only [List.length_cons, Value.slice.injEq, true_and] at e
    obtain ⟨rfl, rfl⟩ := e
    refine ⟨(List.range (t.length + 1)).map (fun j => (w.cell? ⟨b, j, none⟩).getD undef), by simp, fun b' hb' j u hu => ?_⟩
    simp only [Option.some.injEq] at hb'
    subst hb'
    rw [List.getElem?_map] at hu
    by_cases hj : j < t.length + 1
    · rw [List.getElem?_range hj] at hu
      simp only [Option.map_some, Option.some.injEq] at hu
      obtain ⟨v, hv, _⟩ := EnvIs.cellAt (s := x :: t) h j (by simpa using hj)
      rw [hv] at hu
      simp only [Option.getD_some] at hu
      subst hu
      rw [Addr.add_lit, Nat.zero_add]
      exact hv
    · rw [List.getElem?_eq_none (by simpa using hj)] at hu
      cases hu

theorem EnvIs.grow {W0 w w' : World} {c : Nat} {s : List (Option Nd)} {a : Option Addr} {cap : Nat} (h : EnvIs W0 w c s (.slice a s.length cap)) {olds : List Value} {y v' : Value} {base : Nat} {T : TypeId}
    (hl : olds.length = s.length) (hol : ∀ b, a = some b → ∀ j u, olds[j]? = some u → w.cell? (b.add j) = some u) (ho : w'.ownsRow base T 1 v' (s.length + 1) (olds ++ [y])) (hg : w.grownBy w' none) :
    ∃ g cap', v' = .slice (some ⟨g, 0, none⟩) (s.length + 1) cap' ∧ s.length + 1 ≤ cap' ∧ cap' ≤ maxLen ∧ base ≤ g ∧ EnvIs W0 w' c s (.slice (some ⟨g, 0, none⟩) s.length cap') ∧ w'.cell? ⟨g, s.length, none⟩ = some y ∧
      (∃ cur, w'.heap[g]? = some (.cells cur T (0, 0)) ∧ cur.size = cap') := by
  obtain ⟨hlen, h0 | ⟨g, cap', cur, rfl, h1, h2, h3, h4, h5, h6⟩⟩ := ho
  · omega
  · have hst : Still w w' := fun p v e => by rw [World.cell?_of_block (w := w) (hg.block _ (World.block_lt_of_cell? _ _ e) (by simp))]; exact e
    have hcell : ∀ j, j < s.length + 1 → w'.cell? ⟨g, j, none⟩ = (olds ++ [y])[j]? := fun j hj => by
      rw [← h6, List.getElem?_take, if_pos (by omega)]
      simp [World.cell?, h2]
    have hy : w'.cell? ⟨g, s.length, none⟩ = some y := by rw [hcell _ (by omega), List.getElem?_append_right (by omega), hl]; simp
    refine ⟨g, cap', rfl, h3, h4, h1, ?_, hy, cur, h2, by omega⟩
    cases hs : s with
    | nil => exact ⟨_, _, rfl, h4, fun e => by cases e⟩
    | cons x t =>
      rw [hs] at h
      obtain ⟨b, cap2, e, _⟩ := id h
      simp only [List.length_cons, Value.slice.injEq, true_and] at e
      obtain ⟨rfl, rfl⟩ := e
      refine EnvIs.moved b g (x :: t) cap cap' (h.still hst) (fun i hi => ?_) (by rw [hs] at h3; simp at h3 ⊢; omega) h4
      rw [hcell i (by rw [hs]; omega), List.getElem?_append_left (by rw [hl, hs]; omega)]
      obtain ⟨v, hv, _⟩ := EnvIs.cellAt h i hi
      have hi2 : i < olds.length := by rw [hl, hs]; exact hi
      have he : olds[i]? = some olds[i] := List.getElem?_eq_getElem hi2
      have h7 := hol _ rfl i _ he
      rw [Addr.add_lit, Nat.zero_add] at h7
      rw [he, ← h7]
      rw [h7]
      exact (hst _ _ h7).symm
theorem EnvIs.kept {W0 w : World} {c g cap : Nat} {s : List (Option Nd)} (h : EnvIs W0 w c s (.slice (some ⟨g, 0, none⟩) s.length cap)) (h1 : s.length + 1 ≤ cap) (h2 : cap ≤ maxLen) (hy : w.cell? ⟨g, s.length, none⟩ = some .nilFunc) :
    EnvIs W0 w c (none :: s) (.slice (some ⟨g, 0, none⟩) (s.length + 1) cap) := ⟨g, cap, rfl, h1, h2, h, hy⟩

/-- Written behind its end. -/
theorem EnvIs.room {W0 w : World} {c : Nat} {s : List (Option Nd)} {b cap : Nat} (h : EnvIs W0 w c s (.slice (some ⟨b, 0, none⟩) s.length cap)) (y : Value) : EnvIs W0 (w.setCell ⟨b, s.length, none⟩ y) c s (.slice (some ⟨b, 0, none⟩) s.length cap) := by
  by_cases hs : s.length = 0
  · have : s = [] := List.eq_nil_of_length_eq_zero hs
    subst this
    exact h
  · have h0 := EnvIs.cellAt h 0 (by omega)
    refine EnvIs.keep (fun p => p = ⟨b, s.length, none⟩) s.length (fun p v e hp => ?_) (fun b' j v hj e hv hp => ?_) (fun rb R sv _ hr j hj hp => ?_) (fun ob a n cp e hp => ?_) s _ (Nat.le_refl _) h
    · rw [World.cell?_setCell_other _ _ _ _ (fun e => hp e.symm)]
      exact e
    · simp only [Addr.mk.injEq] at hp
      omega
    · simp only [Addr.mk.injEq] at hp
      obtain ⟨v, hv, hvv⟩ := h0
      have hr0 := hr.1
      rw [hp.1] at hr0
      rw [hr0] at hv
      simp only [Option.some.injEq] at hv
      subst hv
      rcases hvv with hvv | ⟨_, _, hvv⟩ <;> simp [cloV] at hvv
    · simp only [Addr.mk.injEq] at hp
      omega
end Go.Proofs.Ytgcefippeokmcaa
