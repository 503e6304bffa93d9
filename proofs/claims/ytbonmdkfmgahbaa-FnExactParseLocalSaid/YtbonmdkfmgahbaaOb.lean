/- A tree of the law's own in a box of its own. -/
import Derived.Test.YtbonmdkfmgahbaaNr
import Derived.Test.YtbonmdkfmgahbaaLMk
namespace Go.Proofs.Ytbonmdkfmgahbaa.Lo.Ne
open Go.RowKit

def B4 (w : World) (b : Nat) (g : Nd) (v : Value) : Prop := Box4 w b (.int .i64 g.k) (.string g.fr) (.int .i64 g.ix) v

/-- A tree in a box of its own, its blocks between two numbers. -/
structure LtS (wi : World) (R : Nd) (G : F) (u : Value) (lo b : Nat) (bs : List Nat) : Prop where
  hx : B4 wi b R u
  ho : Ow wi u G bs
  hl : ∀ x, x ∈ bs → lo ≤ x ∧ x < b
  hn : bs.Nodup
  hlo : lo ≤ b

theorem LtS.below {wi wj : World} {R : Nd} {G : F} {u : Value} {lo b : Nat} {bs : List Nat} (h : LtS wi R G u lo b bs) (hb : Below wi.heap.size wi wj) : LtS wj R G u lo b bs :=
  ⟨h.hx.below hb, h.ho.same (Same.of_below hb h.ho.lt), h.hl, h.hn, h.hlo⟩
theorem LtS.wr {wi wj : World} {R : Nd} {G : F} {u : Value} {lo b : Nat} {bs cs : List Nat} (h : LtS wi R G u lo b bs) (hw : Wr cs wi wj) (hc : ∀ x, x ∈ cs → x < lo ∨ b < x) : LtS wj R G u lo b bs :=
  ⟨Box4.same h.hx (hw.block _ (Box4.lt h.hx) (fun hm => by have := hc _ hm; have := h.hlo; omega)), h.ho.same (fun x hx => hw.block x (h.ho.lt x hx) (fun hm => by have := hc _ hm; have := h.hl x hx; omega)), h.hl, h.hn, h.hlo⟩
/-- A tree that was just made, put into a box. -/
theorem LtS.now {w1 : World} {R : Nd} {u : Value} {lo : Nat} {bs : List Nat} {t : TypeId} (ho : Ow w1 u R.kids bs) (hl : ∀ x, x ∈ bs → lo ≤ x) (hn : bs.Nodup) (hlo : lo ≤ w1.heap.size) :
    LtS (w1.alloc (.cells #[.int .i64 R.k, .string R.fr, .int .i64 R.ix, u] t)) R R.kids u lo w1.heap.size bs :=
  ⟨Box4.now w1 _ _ _ _ t, ho.same (Same.of_below (alloc_below w1 _) ho.lt), fun x hx => ⟨hl x hx, ho.lt x hx⟩, hn, hlo⟩
/-- The tree is marked. -/
theorem LtS.marked {wi wj : World} {R : Nd} {G G' : F} {u : Value} {lo b : Nat} {bs : List Nat} (h : LtS wi R G u lo b bs) (hw : Wr bs wi wj) (ho : Ow wj u G' bs) : LtS wj R G' u lo b bs :=
  ⟨Box4.same h.hx (hw.block _ (Box4.lt h.hx) (fun hm => by have := h.hl _ hm; omega)), ho, h.hl, h.hn, h.hlo⟩
end Go.Proofs.Ytbonmdkfmgahbaa.Lo.Ne
