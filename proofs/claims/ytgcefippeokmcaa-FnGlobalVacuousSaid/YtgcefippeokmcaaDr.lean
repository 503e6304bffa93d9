/- What a drawing leaves: a tree in memory of its own, the source asked some more. -/
import Derived.Test.YtgcefippeokmcaaDz
import Derived.Test.YtgcefippeokmcaaUl
namespace Go.Proofs.Ytgcefippeokmcaa
open Go.RowKit

/-- All indices are one digit. -/
def smF : F → Prop
  | .nil => True
  | .cons _ _ _ _ ix kids rest => (0 ≤ ix ∧ ix ≤ 9) ∧ smF kids ∧ smF rest
def smN (N : Nd) : Prop := (0 ≤ N.ix ∧ N.ix ≤ 9) ∧ smF N.kids
theorem smF_app (g : F) : ∀ f : F, smF (f.app g) ↔ smF f ∧ smF g
  | .nil => by simp [F.app, smF]
  | .cons lab k fr tg ix kids rest => by simp only [F.app, smF, smF_app g rest, and_assoc]

/-- The result of a drawing. -/
structure DrN (w : World) (rb : Nat) (cv : Value) (l : List Nat) (p K S : Nat) (N : Nd) (u : Value) (bs : List Nat) (w' : World) : Prop where
  own : Ow w' u N.kids bs
  ge : ∀ b, b ∈ bs → w.heap.size ≤ b
  nd : bs.Nodup
  only : Only rb w w'
  rd : ∃ p', p' ≤ p + K ∧ Rd w' rb cv l p'
  fit : Fit N
  sz : N.kids.sz ≤ S
def DrP (Q : Nd → Prop) (w : World) (rb : Nat) (cv : Value) (l : List Nat) (p K S : Nat) (e : Ending) (w' : World) : Prop :=
  ∃ N u bs, e = .returned (.agg #[.int .i64 N.k, .string N.fr, .string N.tg, .int .i64 N.ix, u]) ∧ Q N ∧ DrN w rb cv l p K S N u bs w'

/-- The result is put into its box and read out of it. -/
theorem dr_fin {w w2 : World} {rb : Nat} {cv : Value} {l : List Nat} {p p' K S : Nat} (h : Rd w rb cv l p) (ho : Only rb w w2) (h2 : Rd w2 rb cv l p') (hp : p' ≤ p + K) {N : Nd} {u : Value} {bs : List Nat}
    (how : Ow w2 u N.kids bs) (b : Nat) (hbw : w.heap.size ≤ b) (hge : ∀ x, x ∈ bs → b < x) (hnd : bs.Nodup) (hf : Fit N) (hs : N.kids.sz ≤ S) (v0 v1 v2 v3 v4 : Value) :
    DrN w rb cv l p K S N u bs (((((w2.setCell ⟨b, 0, none⟩ v0).setCell ⟨b, 1, none⟩ v1).setCell ⟨b, 2, none⟩ v2).setCell ⟨b, 3, none⟩ v3).setCell ⟨b, 4, none⟩ v4) := by
  have hlt := h.lt
  have hne : ∀ x, x ≠ b → (((((w2.setCell ⟨b, 0, none⟩ v0).setCell ⟨b, 1, none⟩ v1).setCell ⟨b, 2, none⟩ v2).setCell ⟨b, 3, none⟩ v3).setCell ⟨b, 4, none⟩ v4).heap[x]? = w2.heap[x]? := fun x hx =>
    (Below.heap_setCell _ _ _ _ hx).trans ((Below.heap_setCell _ _ _ _ hx).trans ((Below.heap_setCell _ _ _ _ hx).trans ((Below.heap_setCell _ _ _ _ hx).trans (Below.heap_setCell _ _ _ _ hx))))
  have hO : Only rb w (((((w2.setCell ⟨b, 0, none⟩ v0).setCell ⟨b, 1, none⟩ v1).setCell ⟨b, 2, none⟩ v2).setCell ⟨b, 3, none⟩ v3).setCell ⟨b, 4, none⟩ v4) :=
    ((((ho.setCell (Or.inr hbw) _).setCell (Or.inr hbw) _).setCell (Or.inr hbw) _).setCell (Or.inr hbw) _).setCell (Or.inr hbw) _
  refine ⟨how.same (fun x hx => hne x (by have := hge x hx; omega)), fun x hx => by have := hge x hx; omega, hnd, hO, ⟨p', hp, h.fin h2 hO (hne rb (by omega))⟩, hf, hs⟩

/-- Where a drawing stands: its result's box is empty yet. -/
structure St (w : World) (rb : Nat) (cv : Value) (l : List Nat) (p : Nat) (W : World) (q : Nat) : Prop where
  start : Rd w rb cv l p
  only : Only rb w W
  rd : Rd W rb cv l q
  box : Box5 W w.heap.size (.int .i64 0) (.string ⟨#[]⟩) (.string ⟨#[]⟩) (.int .i64 0) (.slice none 0 0)
theorem St.new {w : World} {rb : Nat} {cv : Value} {l : List Nat} {p : Nat} (h : Rd w rb cv l p) (t : TypeId) :
    St w rb cv l p (w.alloc (.cells #[.int .i64 0, .string ⟨#[]⟩, .string ⟨#[]⟩, .int .i64 0, .slice none 0 0] t)) p :=
  ⟨h, (Only.refl _ _).alloc _, h.below (alloc_below w _), Box5.now w _ _ _ _ _ t⟩
theorem St.on {w : World} {rb : Nat} {cv : Value} {l : List Nat} {p : Nat} {W W' : World} {q q' : Nat} (h : St w rb cv l p W q) (ho : Only rb W W') (hr : Rd W' rb cv l q') : St w rb cv l p W' q' := by
  have hl := h.start.lt
  have hb := h.box.lt
  exact ⟨h.start, h.only.trans ho, hr, h.box.same (ho.block _ hb (by omega))⟩
theorem St.ask {w : World} {rb : Nat} {cv : Value} {l : List Nat} {p : Nat} {W W' : World} {q : Nat} (h : St w rb cv l p W q) (ha : Ask W rb cv l q W') : St w rb cv l p W' (q + 1) := h.on ha.only ha.rd
/-- It ends with a leaf. -/
theorem St.leaf {w : World} {rb : Nat} {cv : Value} {l : List Nat} {p : Nat} {W : World} {q K S : Nat} (h : St w rb cv l p W q) (hq : q ≤ p + K) (k ix : Int) (hk : (Lit.int .i64 k).wf = true) (h0 : 0 ≤ ix) (h9 : ix ≤ 9) (v0 v1 v2 v3 v4 : Value) :
    DrP smN w rb cv l p K S (.returned (.agg #[.int .i64 k, .string ⟨#[]⟩, .string ⟨#[]⟩, .int .i64 ix, .slice none 0 0]))
      (((((W.setCell ⟨w.heap.size, 0, none⟩ v0).setCell ⟨w.heap.size, 1, none⟩ v1).setCell ⟨w.heap.size, 2, none⟩ v2).setCell ⟨w.heap.size, 3, none⟩ v3).setCell ⟨w.heap.size, 4, none⟩ v4) := by
  have hi : (Lit.int .i64 ix).wf = true := by simp [Lit.wf, IntKind.min, IntKind.max, IntKind.bits, IntKind.signed]; omega
  exact ⟨⟨k, ⟨#[]⟩, ⟨#[]⟩, ix, .nil⟩, .slice none 0 0, [], rfl, ⟨⟨h0, h9⟩, trivial⟩,
    dr_fin (N := ⟨k, ⟨#[]⟩, ⟨#[]⟩, ix, .nil⟩) h.start h.only h.rd hq ⟨none, 0, rfl, Nat.le_refl _, Nat.zero_le _, Or.inl ⟨rfl, rfl⟩⟩ w.heap.size (Nat.le_refl _) (fun x hx => absurd hx List.not_mem_nil) List.nodup_nil ⟨show (0 : Nat) ≤ maxLen from Nat.zero_le _, show (0 : Nat) ≤ maxLen from Nat.zero_le _, hk, hi⟩ (Nat.zero_le _) v0 v1 v2 v3 v4⟩
end Go.Proofs.Ytgcefippeokmcaa
