/- Rows of actions of one's own. -/
import Derived.Test.YtbonmdkfmgahbaaAc
import Derived.Deep.AppendLies
import Derived.Deep.RegionLawGrows
namespace Go.Proofs.Ytbonmdkfmgahbaa.Lo.Ne
open Go.RowKit

theorem row_below {w w' : World} {base : Nat} {e : TypeId} {size : Nat} {v : Value} {n : Nat} {xs : List Value} (h : w.ownsRow base e size v n xs) (hb : Below w.heap.size w w') : w'.ownsRow base e size v n xs := by
  rcases h with ⟨hl, h | ⟨g, cap, cur, hv, hg, hh, hr⟩⟩
  · exact ⟨hl, Or.inl h⟩
  · exact ⟨hl, Or.inr ⟨g, cap, cur, hv, hg, (hb.block g (Array.getElem?_eq_some_iff.1 hh).1).trans hh, hr⟩⟩
theorem row_shape {w : World} {base : Nat} {e : TypeId} {size : Nat} {v : Value} {n : Nat} {xs : List Value} (h : w.ownsRow base e size v n xs) : ∃ a cap, v = .slice a n cap := by
  rcases h.2 with ⟨rfl, rfl⟩ | ⟨g, cap, cur, rfl, _⟩
  · exact ⟨_, _, rfl⟩
  · exact ⟨_, _, rfl⟩
theorem grown_below {B : Nat} {a w w' : World} {e : TypeId} {size : Nat} {v : Value} {n : Nat} {xs : List Value} (h : w.ownsRow B e size v n xs) (hb : Below B a w) (hB : B ≤ w.heap.size) (hg : w.grownBy w' v.ownBlock) : Below B a w' := by
  refine hb.trans ⟨hg.os, hg.tape, hg.output, hg.size, fun k hk => hg.block k (by omega) (fun e => ?_)⟩
  rcases h.2 with ⟨rfl, _⟩ | ⟨g, cap, cur, rfl, h1, _⟩
  · simp [Value.ownBlock] at e
  · simp only [Value.ownBlock, Option.some.injEq] at e
    omega

theorem row_cells {w : World} {base e size n : Nat} {v : Value} {xs : List Value} (h : w.ownsRow base e size v n xs) (hn : 0 < n) :
    ∃ g cap, v = .slice (some ⟨g, 0, none⟩) n cap ∧ base ≤ g ∧ g < w.heap.size ∧ ∀ i, i < n * size → w.cell? ⟨g, i, none⟩ = xs[i]? := by
  obtain ⟨hl, h | ⟨g, cap, cur, hv, h1, h2, h3, h4, h5, h6⟩⟩ := h
  · omega
  · refine ⟨g, cap, hv, h1, (Array.getElem?_eq_some_iff.1 h2).1, fun i hi => ?_⟩
    rw [← h6, List.getElem?_take, if_pos hi]
    simp [World.cell?, h2]

def Act.cells (a : Act) : List Value := [.string a.r, .bool a.rc, .string a.p, .string a.l]
def Act.small (a : Act) : Prop := a.r.size ≤ maxLen ∧ a.p.size ≤ maxLen ∧ a.l.size ≤ maxLen
theorem cells_len : ∀ l : List Act, (l.flatMap Act.cells).length = l.length * 4
  | [] => rfl
  | a :: r => by simp only [List.flatMap_cons, List.length_append, cells_len r, List.length_cons]; simp [Act.cells]; omega
theorem row_of_cells {w : World} {b : Nat} : ∀ {l : List Act} {o : Nat}, (∀ a ∈ l, a.small) → (∀ i, i < l.length * 4 → w.cell? ⟨b, o + i, none⟩ = (l.flatMap Act.cells)[i]?) → RowG elA w b o l
  | [], _, _, _ => trivial
  | a :: r, o, hs, hc => by
    have q : ∀ i, i < 4 → w.cell? ⟨b, o + i, none⟩ = (Act.cells a)[i]? := fun i hi => by
      rw [hc i (by simp; omega), List.flatMap_cons, List.getElem?_append_left (by simp [Act.cells]; omega)]
    obtain ⟨s1, s2, s3⟩ := hs a (by simp)
    refine ⟨⟨s1, s2, s3, q 0 (by omega), q 1 (by omega), q 2 (by omega), q 3 (by omega)⟩, row_of_cells (fun x hx => hs x (by simp [hx])) (fun i hi => ?_)⟩
    rw [show o + elA.st + i = o + (4 + i) from by rw [Nat.add_assoc]; rfl, hc (4 + i) (by simp only [List.length_cons]; omega), List.flatMap_cons, List.getElem?_append_right (by simp [Act.cells])]
    simp [Act.cells]
/-- A row of actions of one's own reads as the list. -/
theorem own_acts {w : World} {B : Nat} {v : Value} {l : List Act} (h : w.ownsRow B ( /- t -/ 62) 4 v l.length (l.flatMap Act.cells)) (hs : ∀ a ∈ l, a.small) : ∃ bs, OwG elA w v l bs ∧ (∀ x, x ∈ bs → B ≤ x) ∧ bs.Nodup := by
  cases l with
  | nil =>
    rcases h.2 with ⟨rfl, _⟩ | ⟨g, cap, cur, rfl, _, _, _, h4, _⟩
    · exact ⟨[], ⟨none, 0, rfl, Nat.le_refl _, Nat.zero_le _, Or.inl ⟨rfl, rfl⟩⟩, fun x hx => by simp at hx, List.nodup_nil⟩
    · exact ⟨[], ⟨_, cap, rfl, Nat.zero_le _, h4, Or.inl ⟨rfl, rfl⟩⟩, fun x hx => by simp at hx, List.nodup_nil⟩
  | cons a r =>
    obtain ⟨g0, cap0, e0, _, _, hc⟩ := row_cells h (by simp)
    rcases h.2 with ⟨_, h0⟩ | ⟨g, cap, cur, rfl, h1, h2, h3, h4, h5, h6⟩
    · simp at h0
    · simp only [Value.slice.injEq, Option.some.injEq, Addr.mk.injEq, true_and] at e0
      obtain ⟨⟨rfl, _⟩, rfl⟩ := e0
      refine ⟨[g], ⟨_, cap, rfl, h3, h4, Or.inr ⟨g, _, rfl, rfl, ⟨cur, _, h2, rfl⟩, by simp, row_of_cells hs (fun i hi => ?_)⟩⟩, fun x hx => by simp at hx; omega, by simp⟩
      rw [Nat.zero_add]
      exact hc i hi

theorem Try.info_act : (Try.prog.info? ( /- t -/ 62)).map (fun i => (i.zero, i.size, i.bytes)) = some (some (.agg #[.string ⟨#[]⟩, .bool false, .string ⟨#[]⟩, .string ⟨#[]⟩]), 4, 56) := by kernel_rfl
end Go.Proofs.Ytbonmdkfmgahbaa.Lo.Ne
