/- countProcess and ProcessValid of the program. -/
import Derived.Test.YtfppglfajbmapaaRWl
namespace Go.Proofs.Ytfppglfajbmapaa.Pc
open Go.RowKit

/-- What countProcess owes: the nodes counted, if all is well. -/
def CgPost (c : Nat) (w : World) (m size : Nat) (v : Bool) (e : Ending) (w' : World) : Prop :=
  ∃ m' : Nat, e = .returned (.bool (v && decide (m + size ≤ 40))) ∧ Only c w w' ∧ Ctr w' c m' ∧ ((v && decide (m + size ≤ 40)) = true → m' = m + size)
def CgAt (n : Nat) : Prop := ∀ (w : World) (k ix b u : Int) (fr to : ByteArray) (sv : Value) (kids : F) (c m : Nat), kids.sz < n → Sl w sv kids → Ctr w c m → m ≤ 40 → 0 ≤ b → b ≤ m → 0 ≤ u → u ≤ m →
  Calls Try.prog 46 #[.agg #[.int .i64 k, .string fr, .string to, .int .i64 ix, sv], .agg #[.int .i64 b, .int .i64 u], .pointer (some ⟨c, 0, none⟩)] w (CgPost c w m (kids.sz + 1) (vldN k fr to ix kids b u))

theorem alloc_last (w : World) (cs : Array Value) (t : TypeId) : (w.alloc (.cells cs t)).heap[w.heap.size]? = some (.cells cs t (0, 0)) := by
  show (w.heap.push _)[w.heap.size]? = _
  simp

theorem pc_start {w w1 : World} {c m : Nat} {cs ds : Array Value} {t u : TypeId} (hc : Ctr w c m)
    (hb : Below (w.heap.size + 2) (((w.setCell ⟨c, 0, none⟩ (.int .i64 ((m : Int) + 1))).alloc (.cells cs t)).alloc (.cells ds u)) w1) :
    Only c w w1 ∧ Ctr w1 c ((m + 1 : Nat) : Int) ∧ w.heap.size + 1 < w1.heap.size ∧ (∃ t, w1.heap[w.heap.size]? = some (.cells cs t (0, 0))) ∧ ∃ t, w1.heap[w.heap.size + 1]? = some (.cells ds t (0, 0)) := by
  have hlt := hc.lt
  have o1 : Only c w (w.setCell ⟨c, 0, none⟩ (.int .i64 ((m : Int) + 1))) := (Only.refl c w).setCell (Or.inl rfl) _
  have k1 : Ctr (w.setCell ⟨c, 0, none⟩ (.int .i64 ((m : Int) + 1))) c ((m + 1 : Nat) : Int) := by
    have := hc.set ((m : Int) + 1)
    simpa using this
  have hs0 : (w.setCell ⟨c, 0, none⟩ (.int .i64 ((m : Int) + 1))).heap.size = w.heap.size := by simp
  generalize w.setCell ⟨c, 0, none⟩ (.int .i64 ((m : Int) + 1)) = V at *
  have hz1 : (V.alloc (.cells cs t)).heap.size = w.heap.size + 1 := by simp [hs0]
  have hz2 : ((V.alloc (.cells cs t)).alloc (.cells ds u)).heap.size = w.heap.size + 2 := by simp [hs0]
  have a1 := alloc_last V cs t
  have a2 := alloc_last (V.alloc (.cells cs t)) ds u
  rw [hs0] at a1
  rw [hz1] at a2
  have a3 : ((V.alloc (.cells cs t)).alloc (.cells ds u)).heap[w.heap.size]? = some (.cells cs t (0, 0)) := ((alloc_below (V.alloc (.cells cs t)) (.cells ds u)).block _ (by rw [hz1]; omega)).trans a1
  have o2 := (o1.alloc (.cells cs t)).alloc (.cells ds u)
  have k2 := (k1.alloc (.cells cs t)).alloc (.cells ds u)
  have hsz := hb.size
  rw [hz2] at hsz
  refine ⟨o2.below (by rw [hz2]; exact hb), k2.below (by rw [hz2]; exact hb), by omega, ⟨_, (hb.block _ (by omega)).trans a3⟩, ⟨_, (hb.block _ (by omega)).trans a2⟩⟩

end Go.Proofs.Ytfppglfajbmapaa.Pc
