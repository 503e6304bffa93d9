/- What both kinds of drawings share. -/
import Derived.Test.YtfppglfajbmapaaDoorDb
namespace Go.Proofs.YtfppglfajbmapaaDoor
open Go.RowKit

theorem Only.same {c : Nat} {w w' : World} (h : Only c w w') {bs : List Nat} (hb : ∀ b, b ∈ bs → b < w.heap.size ∧ b ≠ c) : Same w w' bs := fun b hm => h.block b (hb b hm).1 (hb b hm).2
/-- Questions asked by a drawing of some depth. -/
def qs (d : Nat) : Nat := 9 * 4 ^ d
theorem qs_zero : qs 0 = 9 := rfl
theorem qs_succ (d : Nat) : qs (d + 1) = 4 * qs d := by unfold qs; rw [Nat.pow_succ]; omega
theorem qs_pos (d : Nat) : 9 ≤ qs d := by
  induction d with
  | zero => exact Nat.le_refl _
  | succ d ih => rw [qs_succ]; omega
/-- How many nodes lie below its root. -/
def zs : Nat → Nat
  | 0 => 0
  | d + 1 => 3 * (zs d + 1)
theorem Rd.fin {w w2 wf : World} {rb : Nat} {cv : Value} {l : List Nat} {p p' : Nat} (h : Rd w rb cv l p) (h2 : Rd w2 rb cv l p') (ho : Only rb w wf) (he : wf.heap[rb]? = w2.heap[rb]?) : Rd wf rb cv l p' := by
  obtain ⟨t, hx⟩ := h2.hx
  exact h.move (fun b hl hne => ho.block b hl hne) ⟨t, he.trans hx⟩
theorem heap_new (w : World) (o : Obj) : (w.alloc o).heap[w.heap.size]? = some o := by
  show (w.heap.push _)[w.heap.size]? = _
  simp
theorem sl4 (w : World) (s0 s1 s2 s3 : ByteArray) (t : TypeId) (h0 : s0.size ≤ maxLen) (h1 : s1.size ≤ maxLen) (h2 : s2.size ≤ maxLen) (h3 : s3.size ≤ maxLen) :
    SlG elS (w.alloc (.cells #[.string s0, .string s1, .string s2, .string s3] t)) (.slice (some ⟨w.heap.size, 0, none⟩) 4 4) [s0, s1, s2, s3] := by
  have hh := heap_new w (.cells #[.string s0, .string s1, .string s2, .string s3] t)
  refine ⟨_, 4, rfl, Nat.le_refl _, by unfold maxLen; omega, Or.inr ⟨w.heap.size, 0, rfl, ⟨h0, ?_⟩, ⟨h1, ?_⟩, ⟨h2, ?_⟩, ⟨h3, ?_⟩, trivial⟩⟩
  all_goals (rw [cell_of_heap hh]; rfl)
theorem sl5i (w : World) (s0 s1 s2 s3 s4 : Int) (t : TypeId) :
    SlG elI64 (w.alloc (.cells #[.int .i64 s0, .int .i64 s1, .int .i64 s2, .int .i64 s3, .int .i64 s4] t)) (.slice (some ⟨w.heap.size, 0, none⟩) 5 5) [s0, s1, s2, s3, s4] := by
  have hh := heap_new w (.cells #[.int .i64 s0, .int .i64 s1, .int .i64 s2, .int .i64 s3, .int .i64 s4] t)
  refine ⟨_, 5, rfl, Nat.le_refl _, by unfold maxLen; omega, Or.inr ⟨w.heap.size, 0, rfl, ?_, ?_, ?_, ?_, ?_, trivial⟩⟩
  all_goals (show World.cell? _ _ = _; rw [cell_of_heap hh]; rfl)
theorem new_far {w : World} {rb : Nat} (h : rb < w.heap.size) {k m : Nat} : ∀ (b o n c : Nat), (Value.slice (some ⟨w.heap.size, 0, none⟩) k m) = .slice (some ⟨b, (o : Nat), none⟩) n c → b ≠ rb := by
  intro b o n c e
  injection e with e
  injection e with e
  injection e with e
  omega
theorem small_of {fr : ByteArray} {a b c d : UInt8} (h : fr ∈ [(⟨#[a]⟩ : ByteArray), ⟨#[b]⟩, ⟨#[c]⟩, ⟨#[d]⟩]) : fr.size ≤ maxLen := by
  have : fr.size = 1 := by
    simp only [List.mem_cons, List.not_mem_nil, or_false] at h
    rcases h with rfl | rfl | rfl | rfl <;> rfl
  rw [this]
  unfold maxLen
  omega
theorem set_alloc (w : World) (o : Obj) (a : Addr) (v : Value) (h : a.block < w.heap.size) : (w.setCell a v).alloc o = (w.alloc o).setCell a v := by
  have e : (w.heap.modify a.block fun x => match x with
      | .cells c elem frozen => .cells (if a.spot.isSome then c else c.setIfInBounds a.off v) elem frozen
      | o => o).push o = (w.heap.push o).modify a.block (fun x => match x with
      | .cells c elem frozen => .cells (if a.spot.isSome then c else c.setIfInBounds a.off v) elem frozen
      | o => o) := by
    apply Array.ext_getElem?
    intro i
    rw [Array.getElem?_modify, Array.getElem?_push, Array.getElem?_push, Array.getElem?_modify, Array.size_modify]
    by_cases hi : i = w.heap.size
    · rw [if_pos hi, if_neg (by omega), if_pos hi]
    · rw [if_neg hi, if_neg hi]
  exact congrArg (fun H => ({ w with heap := H } : World)) e
theorem sl6i (w : World) (s0 s1 s2 s3 s4 s5 : Int) (t : TypeId) :
    SlG elI64 (w.alloc (.cells #[.int .i64 s0, .int .i64 s1, .int .i64 s2, .int .i64 s3, .int .i64 s4, .int .i64 s5] t)) (.slice (some ⟨w.heap.size, 0, none⟩) 6 6) [s0, s1, s2, s3, s4, s5] := by
  have hh := heap_new w (.cells #[.int .i64 s0, .int .i64 s1, .int .i64 s2, .int .i64 s3, .int .i64 s4, .int .i64 s5] t)
  refine ⟨_, 6, rfl, Nat.le_refl _, by unfold maxLen; omega, Or.inr ⟨w.heap.size, 0, rfl, ?_, ?_, ?_, ?_, ?_, ?_, trivial⟩⟩
  all_goals (show World.cell? _ _ = _; rw [cell_of_heap hh]; rfl)
theorem sl3i (w : World) (s0 s1 s2 : Int) (t : TypeId) :
    SlG elI64 (w.alloc (.cells #[.int .i64 s0, .int .i64 s1, .int .i64 s2] t)) (.slice (some ⟨w.heap.size, 0, none⟩) 3 3) [s0, s1, s2] := by
  have hh := heap_new w (.cells #[.int .i64 s0, .int .i64 s1, .int .i64 s2] t)
  refine ⟨_, 3, rfl, Nat.le_refl _, by unfold maxLen; omega, Or.inr ⟨w.heap.size, 0, rfl, ?_, ?_, ?_, trivial⟩⟩
  all_goals (show World.cell? _ _ = _; rw [cell_of_heap hh]; rfl)
theorem gsl3 (w : World) (s0 s1 s2 : ByteArray) (t : TypeId) (h0 : s0.size ≤ maxLen) (h1 : s1.size ≤ maxLen) (h2 : s2.size ≤ maxLen) :
    SlG elS (w.alloc (.cells #[.string s0, .string s1, .string s2] t)) (.slice (some ⟨w.heap.size, 0, none⟩) 3 3) [s0, s1, s2] := by
  have hh := heap_new w (.cells #[.string s0, .string s1, .string s2] t)
  refine ⟨_, 3, rfl, Nat.le_refl _, by unfold maxLen; omega, Or.inr ⟨w.heap.size, 0, rfl, ⟨h0, ?_⟩, ⟨h1, ?_⟩, ⟨h2, ?_⟩, trivial⟩⟩
  all_goals (rw [cell_of_heap hh]; rfl)
theorem small_all {fr : ByteArray} {L : List ByteArray} (h : fr ∈ L) (hL : L.all (fun s => decide (s.size ≤ 1)) = true) : fr.size ≤ maxLen := by
  have := of_decide_eq_true (List.all_eq_true.1 hL fr h)
  unfold maxLen
  omega
theorem wf_all {k : Int} {L : List Int} (h : k ∈ L) (hL : L.all (fun s => (Lit.int .i64 s).wf) = true) : (Lit.int .i64 k).wf = true := List.all_eq_true.1 hL k h
end Go.Proofs.YtfppglfajbmapaaDoor
