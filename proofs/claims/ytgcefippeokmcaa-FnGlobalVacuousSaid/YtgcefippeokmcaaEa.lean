/- What the walks of the drawn laws share: a tree in a box. -/
import Derived.Test.YtgcefippeokmcaaDl
import Derived.Test.YtgcefippeokmcaaQs
import Derived.Test.YtgcefippeokmcaaUz
import Derived.Test.YtgcefippeokmcaaUw
namespace Go.Proofs.Ytgcefippeokmcaa
open Go.RowKit

/-- A tree in a box, in memory of its own. -/
structure Nv (w : World) (b : Nat) (g : Nd) (u : Value) : Prop where
  box : Box5 w b (.int .i64 g.k) (.string g.fr) (.string g.tg) (.int .i64 g.ix) u
  own : ∃ bs, Ow w u g.kids bs
theorem Nv.sl {w : World} {b : Nat} {g : Nd} {u : Value} (h : Nv w b g u) : Sl w u g.kids := by
  obtain ⟨bs, h⟩ := h.own
  exact h.sl
theorem Nv.below {w w' : World} {b : Nat} {g : Nd} {u : Value} (h : Nv w b g u) (hb : Below w.heap.size w w') : Nv w' b g u := by
  obtain ⟨bs, h2⟩ := h.own
  exact ⟨h.box.below hb, bs, h2.same (Same.of_below hb h2.lt)⟩
theorem Nv.drew {w : World} {b : Nat} {g : Nd} {u : Value} (h : Nv w b g u) : Nv w.drew b g u := h.below (Below.refl _ _).drew
theorem Nv.lt {w : World} {b : Nat} {g : Nd} {u : Value} (h : Nv w b g u) : b < w.heap.size := h.box.lt
/-- A new box. -/
theorem Nv.now {w : World} {g : Nd} {u : Value} {bs : List Nat} (h : Ow w u g.kids bs) (t : TypeId) : Nv (w.alloc (.cells #[.int .i64 g.k, .string g.fr, .string g.tg, .int .i64 g.ix, u] t)) w.heap.size g u :=
  ⟨Box5.now w _ _ _ _ _ t, bs, h.same (Same.of_below (alloc_below w _) h.lt)⟩
theorem sameF_refl : ∀ f : F, sameF f f = true
  | .nil => rfl
  | .cons lab k fr tg ix kids rest => by simp [sameF, headB, sameF_refl kids, sameF_refl rest]
theorem sameN_refl (g : Nd) : sameN g.k g.fr g.tg g.ix g.kids g.k g.fr g.tg g.ix g.kids = true := by
  unfold sameN
  rw [sameF_refl]
  simp [headB]
/-- Equality of a tree with itself. -/
theorem same_self (w : World) (g : Nd) (u u' : Value) (h : ∃ bs, Ow w u g.kids bs) (h' : ∃ bs, Ow w u' g.kids bs) (hsz : g.kids.sz ≤ 1048576) :
    Calls Try.prog 8 #[.agg #[.int .i64 g.k, .string g.fr, .string g.tg, .int .i64 g.ix, u], .agg #[.int .i64 g.k, .string g.fr, .string g.tg, .int .i64 g.ix, u']] w fun e w' => e = .returned (.bool true) ∧ Below w.heap.size w w' := by
  obtain ⟨bs, h⟩ := h
  obtain ⟨bs', h'⟩ := h'
  refine (implSame w g.k g.ix g.k g.ix g.fr g.tg g.fr g.tg u u' g.kids g.kids bs bs' h h' hsz).mono ?_
  rintro e w' ⟨rfl, hb⟩
  rw [sameN_refl]
  exact ⟨rfl, hb⟩
theorem unfR_sz (g : Nd) : (unfR g).kids.sz ≤ 1048576 := by
  unfold unfR
  split
  · rename_i h
    unfold unfOk at h
    simp only [Bool.and_eq_true] at h
    have := (okG_w h.2).2.2
    omega
  · exact Nat.zero_le _
theorem zeroNd_fit : Fit zeroNd := ⟨Nat.zero_le _, Nat.zero_le _, show (Lit.int .i64 0).wf = true by decide, show (Lit.int .i64 0).wf = true by decide⟩
end Go.Proofs.Ytgcefippeokmcaa
