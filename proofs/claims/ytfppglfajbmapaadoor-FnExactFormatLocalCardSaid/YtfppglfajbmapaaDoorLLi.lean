/- linkNode of the program: what it owes; the ways without a recursion. -/
import Derived.Test.YtfppglfajbmapaaDoorLNo
import Derived.Test.YtfppglfajbmapaaDoorLLk
import Derived.Deep.AppendLies
import Derived.ArgAppend
namespace Go.Proofs.YtfppglfajbmapaaDoor.Lo
open Go.RowKit

/-- What linkNode owes: the node is valid and within the limit, or not; where it is, its nodes are counted and the value is linked. -/
def LiPost (c : Nat) (w : World) (m : Nat) (k : Int) (fr : ByteArray) (ix : Int) (kids : F) (ps : List Nat) (v : Bool) (e : Ending) (w' : World) : Prop :=
  ∃ (m' : Nat) (u : Value) (bs : List Nat), e = .returned (.tuple #[u, .bool (v && decide (m + (kids.sz + 1) ≤ 400))]) ∧ (u = .nilIface ∨ ∃ T x, u = .iface T x) ∧ Only c w w' ∧ Ctr w' c m' ∧
    ((v && decide (m + (kids.sz + 1) ≤ 400)) = true → m' = m + (kids.sz + 1) ∧ LkN w' k fr ix kids ps u bs ∧ ∀ b, b ∈ bs → w.heap.size ≤ b)

def LiAt (n : Nat) : Prop := ∀ (w : World) (k ix depth ung : Int) (fr : ByteArray) (sv lv : Value) (kids : F) (ps : List Nat) (c m : Nat), kids.sz < n → Sl w sv kids → Ctr w c m → m ≤ 400 → Ps w lv ps → (∀ l, l ∈ ps → l < w.heap.size) →
  1 ≤ depth → depth ≤ 41 → ps.length + 1 ≤ depth → 0 ≤ ung → ung + 1 ≤ depth →
  Calls Tryd.prog 99 #[.agg #[.int .i64 k, .string fr, .int .i64 ix, sv], .agg #[.int .i64 depth, lv, .int .i64 ung], .pointer (some ⟨c, 0, none⟩)] w
    (LiPost c w m k fr ix kids ps (vldN k fr ix kids ps.length ung (41 - depth)))

theorem alloc_last (w : World) (cs : Array Value) (t : TypeId) : (w.alloc (.cells cs t)).heap[w.heap.size]? = some (.cells cs t (0, 0)) := by
  show (w.heap.push _)[w.heap.size]? = _
  simp

/-- The world in which the fields are looked at, and each one behind it. -/
theorem li_start {w w1 : World} {c m : Nat} {cs ds : Array Value} {t u : TypeId} (hc : Ctr w c m)
    (hb : Below (w.heap.size + 2) (((w.setCell ⟨c, 0, none⟩ (.int .i64 ((m : Int) + 1))).alloc (.cells cs t)).alloc (.cells ds u)) w1) :
    Only c w w1 ∧ Ctr w1 c ((m + 1 : Nat) : Int) ∧ w.heap.size + 1 < w1.heap.size ∧ Blk w1 w.heap.size cs ∧ Blk w1 (w.heap.size + 1) ds := by
  have hlt := hc.lt
  have o1 : Only c w (w.setCell ⟨c, 0, none⟩ (.int .i64 ((m : Int) + 1))) := (Only.refl c w).setCell (Or.inl rfl) _
  have k1 : Ctr (w.setCell ⟨c, 0, none⟩ (.int .i64 ((m : Int) + 1))) c ((m + 1 : Nat) : Int) := by
    have := hc.set ((m : Int) + 1)
    rwa [show ((m + 1 : Nat) : Int) = (m : Int) + 1 by omega]
  have s1 : (w.setCell ⟨c, 0, none⟩ (.int .i64 ((m : Int) + 1))).heap.size = w.heap.size := World.size_setCell ..
  generalize (w.setCell ⟨c, 0, none⟩ (.int .i64 ((m : Int) + 1))) = w0 at *
  have a1 := alloc_last w0 cs t
  have a2 := alloc_last (w0.alloc (.cells cs t)) ds u
  have z1 : (w0.alloc (.cells cs t)).heap.size = w0.heap.size + 1 := by simp
  have z2 : ((w0.alloc (.cells cs t)).alloc (.cells ds u)).heap.size = w0.heap.size + 2 := by simp
  rw [z1] at a2
  have e1 : w1.heap[w.heap.size]? = some (.cells cs t (0, 0)) := by
    rw [hb.block _ (by omega), Below.heap_alloc _ _ _ (by omega), ← s1]; exact a1
  have e2 : w1.heap[w.heap.size + 1]? = some (.cells ds u (0, 0)) := by
    rw [hb.block _ (by omega), ← s1]; exact a2
  have hs := hb.size
  exact ⟨((o1.alloc _).alloc _).trans ⟨hb.os, hb.tape, hb.output, hb.size, fun i hi _ => hb.block i (by omega)⟩, ((k1.alloc _).alloc _).same (hb.block _ (by omega)), by omega, ⟨t, e1⟩, ⟨u, e2⟩⟩

theorem li_no {c : Nat} {w w' : World} {m m' : Nat} {k : Int} {fr : ByteArray} {ix : Int} {kids : F} {ps : List Nat} {v : Bool} (hv : (v && decide (m + (kids.sz + 1) ≤ 400)) = false) (ho : Only c w w') (hc : Ctr w' c m') :
    LiPost c w m k fr ix kids ps v (.returned (.tuple #[.nilIface, .bool false])) w' :=
  ⟨m', .nilIface, [], by rw [hv], Or.inl rfl, ho, hc, by rw [hv]; intro h; cases h⟩

set_option maxHeartbeats 400000 in
set_option maxRecDepth 100000 in
theorem li_full (w : World) (k ix depth ung : Int) (fr : ByteArray) (sv lv : Value) (kids : F) (ps : List Nat) (c m : Nat) (v : Bool) (hp : Ps w lv ps) (hc : Ctr w c m) (hm : 400 ≤ m) (hm2 : m ≤ 400) :
    Calls Tryd.prog 99 #[.agg #[.int .i64 k, .string fr, .int .i64 ix, sv], .agg #[.int .i64 depth, lv, .int .i64 ung], .pointer (some ⟨c, 0, none⟩)] w (LiPost c w m k fr ix kids ps v) := by
  obtain ⟨a, cap, rfl, -, -⟩ := hp.val
  have h0 := hc.cell
  have h1 : w.frozen? ⟨c, 0, none⟩ = false := hc.frozen
  have h2 := hc.lt
  go_enter Tryd.func99, Tryd.ntmps99
  go_wp2_with fail
  obtain ⟨p1, p2, -⟩ := li_start (cs := #[.int .i64 k, .string fr, .int .i64 ix, sv]) (t := ( /- t -/ 35)) (ds := #[.int .i64 depth, .slice a ps.length cap, .int .i64 ung]) (u := ( /- t -/ 105)) hc (Below.refl _ _)
  go_ret2
  exact li_no (by rw [decide_eq_false (by omega), Bool.and_false]) p1 p2

set_option maxHeartbeats 400000 in
set_option maxRecDepth 100000 in
theorem li_deep (w : World) (k ix depth ung : Int) (fr : ByteArray) (sv lv : Value) (kids : F) (ps : List Nat) (c m : Nat) (hp : Ps w lv ps) (hc : Ctr w c m) (hm : m ≤ 399) (hd : 40 < depth) :
    Calls Tryd.prog 99 #[.agg #[.int .i64 k, .string fr, .int .i64 ix, sv], .agg #[.int .i64 depth, lv, .int .i64 ung], .pointer (some ⟨c, 0, none⟩)] w
      (LiPost c w m k fr ix kids ps (vldN k fr ix kids ps.length ung (41 - depth))) := by
  obtain ⟨a, cap, rfl, -, -⟩ := hp.val
  have h0 := hc.cell
  have h1 : w.frozen? ⟨c, 0, none⟩ = false := hc.frozen
  have h2 := hc.lt
  go_enter Tryd.func99, Tryd.ntmps99
  go_wp2_with fail
  obtain ⟨p1, p2, -⟩ := li_start (cs := #[.int .i64 k, .string fr, .int .i64 ix, sv]) (t := ( /- t -/ 35)) (ds := #[.int .i64 depth, .slice a ps.length cap, .int .i64 ung]) (u := ( /- t -/ 105)) hc (Below.refl _ _)
  go_ret2
  have hv : vldN k fr ix kids ps.length ung (41 - depth) = false := by
    unfold vldN nodeB
    rw [decide_eq_false (by omega)]
    rfl
  exact li_no (by rw [hv]; rfl) p1 p2

set_option maxHeartbeats 400000 in
set_option maxRecDepth 100000 in
theorem li_bad (w : World) (k ix depth ung : Int) (fr : ByteArray) (sv lv : Value) (kids : F) (ps : List Nat) (c m : Nat) (hp : Ps w lv ps) (hs : Sl w sv kids) (hc : Ctr w c m) (hm : m ≤ 399) (hd : depth ≤ 40) (hsh : shapeB k fr ix kids = false) :
    Calls Tryd.prog 99 #[.agg #[.int .i64 k, .string fr, .int .i64 ix, sv], .agg #[.int .i64 depth, lv, .int .i64 ung], .pointer (some ⟨c, 0, none⟩)] w
      (LiPost c w m k fr ix kids ps (vldN k fr ix kids ps.length ung (41 - depth))) := by
  obtain ⟨a, cap, rfl, -, -⟩ := hp.val
  have h0 := hc.cell
  have h1 : w.frozen? ⟨c, 0, none⟩ = false := hc.frozen
  have h2 := hc.lt
  have HS := hide hs
  have HSH := hide hsh
  clear hs hsh hp
  go_enter Tryd.func99, Tryd.ntmps99
  go_wp2_with fail
  have q0 := li_start (cs := #[.int .i64 k, .string fr, .int .i64 ix, sv]) (t := ( /- t -/ 35)) (ds := #[.int .i64 depth, .slice a ps.length cap, .int .i64 ung]) (u := ( /- t -/ 105)) hc (Below.refl _ _)
  refine (implShape _ k ix fr sv kids (HS.out.only hc q0.1)).mono ?_
  clear q0
  rintro e w1 ⟨rfl, hb⟩
  rw [HSH.out]
  obtain ⟨p1, p2, -⟩ := li_start hc (hb.mono (by simp))
  clear hb
  go_wp2_with fail
  go_ret2
  have hv : vldN k fr ix kids ps.length ung (41 - depth) = false := by
    unfold vldN
    rw [nodeB_shape, HSH.out, Bool.and_false, Bool.false_and]
  exact li_no (by rw [hv]; rfl) p1 p2

set_option maxHeartbeats 400000 in
set_option maxRecDepth 100000 in
theorem li_end (w : World) (ix depth ung : Int) (fr : ByteArray) (sv lv : Value) (kids : F) (ps : List Nat) (c m : Nat) (hp : Ps w lv ps) (hs : Sl w sv kids) (hc : Ctr w c m) (hm : m ≤ 399) (hd0 : 1 ≤ depth) (hd : depth ≤ 40) (hsh : shapeB 1 fr ix kids = true) :
    Calls Tryd.prog 99 #[.agg #[.int .i64 1, .string fr, .int .i64 ix, sv], .agg #[.int .i64 depth, lv, .int .i64 ung], .pointer (some ⟨c, 0, none⟩)] w
      (LiPost c w m 1 fr ix kids ps (vldN 1 fr ix kids ps.length ung (41 - depth))) := by
  obtain ⟨a, cap, rfl, -, -⟩ := hp.val
  have h0 := hc.cell
  have h1 : w.frozen? ⟨c, 0, none⟩ = false := hc.frozen
  have h2 := hc.lt
  have HS := hide hs
  have HSH := hide hsh
  clear hs hsh hp
  go_enter Tryd.func99, Tryd.ntmps99
  go_wp2_with fail
  have q0 := li_start (cs := #[.int .i64 1, .string fr, .int .i64 ix, sv]) (t := ( /- t -/ 35)) (ds := #[.int .i64 depth, .slice a ps.length cap, .int .i64 ung]) (u := ( /- t -/ 105)) hc (Below.refl _ _)
  refine (implShape _ 1 ix fr sv kids (HS.out.only hc q0.1)).mono ?_
  clear q0
  rintro e w1 ⟨rfl, hb⟩
  rw [HSH.out]
  obtain ⟨p1, p2, hz, b1, -⟩ := li_start hc (hb.mono (by simp))
  have x0 := b1.cell 0
  simp only [List.getElem?_toArray, List.getElem?_cons_zero] at x0
  have hz1 : w.heap.size < w1.heap.size := by omega
  clear hb b1
  go_wp2_with fail
  go_ret2
  have hv : vldN 1 fr ix kids ps.length ung (41 - depth) = true := by
    unfold vldN
    rw [nodeB_shape, HSH.out, decide_eq_true (by omega)]
    rfl
  have h1 : kids.sz = 0 := by rw [(shape_end HSH.out).2.2]; rfl
  have h3 : (vldN 1 fr ix kids ps.length ung (41 - depth) && decide (m + (kids.sz + 1) ≤ 400)) = true := by rw [hv, decide_eq_true (by omega)]; rfl
  exact ⟨m + 1, _, [], by rw [h3]; rfl, Or.inr ⟨_, _, rfl⟩, p1, p2, fun _ => ⟨by rw [h1], Or.inl ⟨rfl, rfl, rfl⟩, fun b hb => by simp at hb⟩⟩
end Go.Proofs.YtfppglfajbmapaaDoor.Lo
