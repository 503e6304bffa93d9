/- What a law's walk knows of a network argument: its box and what it reads as; of a network of the call's own. -/
import Derived.Test.YtodhgpjcklhboaaNr
namespace Go.Proofs.Ytodhgpjcklhboaa.Lo.Ne
open Go.RowKit

/-- A network in box b: what its slices read as. -/
structure NA (b : Nat) (lv qv : Value) (l : List Nd) (q : List ByteArray) (W : World) : Prop where
  box : Box2 W b lv qv
  sl : SlG elL W lv l
  sq : SlG elS W qv q
theorem NA.go {b : Nat} {lv qv : Value} {l : List Nd} {q : List ByteArray} {W W' : World} (h : NA b lv qv l q W) (hb : Below W.heap.size W W') : NA b lv qv l q W' :=
  ⟨h.box.below hb, h.sl.still (Still.of_below hb), h.sq.still (Still.of_below hb)⟩
theorem NA.drew {b : Nat} {lv qv : Value} {l : List Nd} {q : List ByteArray} {W : World} (h : NA b lv qv l q W) : NA b lv qv l q W.drew :=
  ⟨h.box.drew, h.sl.still (still_drew W), h.sq.still (still_drew W)⟩

/-- A network whose memory is the call's own. -/
structure NO (u v : Value) (l : List Nd) (q : List ByteArray) (bs cs : List Nat) (W : World) : Prop where
  ol : OwS W u l bs
  oq : OwG elS W v q cs
theorem NO.go {u v : Value} {l : List Nd} {q : List ByteArray} {bs cs : List Nat} {W W' : World} (h : NO u v l q bs cs W) (hb : Below W.heap.size W W') : NO u v l q bs cs W' :=
  ⟨h.ol.same (Same.of_below hb h.ol.lt), h.oq.same elS_flat (Same.of_below hb h.oq.lt)⟩
theorem NO.drew {u v : Value} {l : List Nd} {q : List ByteArray} {bs cs : List Nat} {W : World} (h : NO u v l q bs cs W) : NO u v l q bs cs W.drew :=
  ⟨h.ol.same (w' := W.drew) (Same.refl W _), h.oq.same (w' := W.drew) elS_flat (Same.refl W _)⟩
theorem NO.vals {u v : Value} {l : List Nd} {q : List ByteArray} {bs cs : List Nat} {W : World} (h : NO u v l q bs cs W) : ∃ a c a' c', u = .slice a l.length c ∧ v = .slice a' q.length c' := by
  obtain ⟨a, c, e⟩ := h.ol.val
  obtain ⟨a', c', e'⟩ := h.oq.val
  exact ⟨a, c, a', c', e, e'⟩
theorem NO.na {u v : Value} {l : List Nd} {q : List ByteArray} {bs cs : List Nat} {W : World} (h : NO u v l q bs cs W) {b : Nat} (hb : Box2 W b u v) : NA b u v l q W := ⟨hb, h.ol.sl, h.oq.sl⟩

/-- How much of its budget the law spends on a network. -/
def wtNet (l : List Nd) (q : List ByteArray) : Nat := l.length + wtL l + (q.length + wtS q)
theorem wtNet_l {l : List Nd} {q : List ByteArray} {n : Nat} (h : wtNet l q ≤ n) : l.length + wtL l ≤ n ∧ q.length ≤ n := by unfold wtNet at h; omega
end Go.Proofs.Ytodhgpjcklhboaa.Lo.Ne
