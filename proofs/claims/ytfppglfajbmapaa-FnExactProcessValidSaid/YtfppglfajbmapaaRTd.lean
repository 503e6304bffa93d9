/- What is made in new memory: slices, nodes, branches. -/
import Derived.Test.YtfppglfajbmapaaRows
import Derived.Test.YtfppglfajbmapaaRTree
import Derived.WalkKit
import Derived.WalkSpells
import Derived.WalkLawsBesides
namespace Go.Proofs.Ytfppglfajbmapaa.Pc
open Go.RowKit

theorem run_make_rowN {P : Program} (t e : TypeId) (i : TypeInfo) (z : Value) (ht : P.underlying t = some (.slice e)) (hi : P.info? e = some i) (hz : i.zero = some z)
    (kl kc : IntKind) (n c : Nat) (hnc : n ≤ c) (hbytes : i.bytes * c ≤ 281474976710656) (h63 : c ≤ 9223372036854775807) (w : World) :
    (Instr.makeSlice t (.int kl (n : Int)) (.int kc (c : Int))).run P w = .ok (.slice (some ⟨w.heap.size, 0, none⟩) n c) (w.alloc (.cells (madeCells z.cells (c * i.size)) e)) := by
  have hb : (i.bytes : Int) * (c : Int) ≤ 281474976710656 := by
    have h : ((i.bytes * c : Nat) : Int) ≤ 281474976710656 := by omega
    rwa [Int.natCast_mul] at h
  have hr := run_make (P := P) w t e i z ht hi hz kl kc n c (by omega) (by omega) hb (by omega)
  simp only [Int.toNat_natCast] at hr
  exact hr
theorem Try.info92 : (Try.prog.info? ( /- t -/ 92)).map (fun i => (i.zero, i.size, i.bytes)) = some (some (.agg #[.string ⟨#[]⟩, .int .i64 0, .string ⟨#[]⟩, .string ⟨#[]⟩, .int .i64 0, .slice none 0 0]), 6, 88) := by kernel_rfl
/-- The cells of a new row. -/
def newRow (n : Nat) : Array Value := madeCells #[.string ⟨#[]⟩, .int .i64 0, .string ⟨#[]⟩, .string ⟨#[]⟩, .int .i64 0, .slice none 0 0] (n * 6)
theorem make52 (n : Nat) (hn : n ≤ 1048576) (w : World) : (Instr.makeSlice ( /- t -/ 46) (.int .i64 (n : Int)) (.int .i64 (n : Int))).run Try.prog w = .ok (.slice (some ⟨w.heap.size, 0, none⟩) n n) (w.alloc (.cells (newRow n) ( /- t -/ 92))) := by
  obtain ⟨i0, hi, hz0, hz1, hz2⟩ := info_parts Try.info92
  have := run_make_rowN (P := Try.prog) ( /- t -/ 46) ( /- t -/ 92) i0 _ Try.underlying46 hi hz0 .i64 .i64 n n (Nat.le_refl _) (by rw [hz2]; omega) (by omega) w
  rw [hz1] at this
  exact this

/-- A slice of the call's own that reads as f. -/
def MadeS (f : F) (w : World) (e : Ending) (w' : World) : Prop :=
  ∃ u bs, e = .returned u ∧ Ow w' u f bs ∧ (∀ b, b ∈ bs → w.heap.size ≤ b) ∧ bs.Nodup ∧ Below w.heap.size w w'

def MadeN (k : Int) (fr to : ByteArray) (ix : Int) (f : F) (w : World) (e : Ending) (w' : World) : Prop :=
  ∃ u bs, e = .returned (.agg #[.int .i64 k, .string fr, .string to, .int .i64 ix, u]) ∧ Ow w' u f bs ∧ (∀ b, b ∈ bs → w.heap.size ≤ b) ∧ bs.Nodup ∧ Below w.heap.size w w'

def MadeB (lab : ByteArray) (k : Int) (fr to : ByteArray) (ix : Int) (f : F) (w : World) (e : Ending) (w' : World) : Prop :=
  ∃ u bs, e = .returned (.agg #[.string lab, .int .i64 k, .string fr, .string to, .int .i64 ix, u]) ∧ Ow w' u f bs ∧ (∀ b, b ∈ bs → w.heap.size ≤ b) ∧ bs.Nodup ∧ Below w.heap.size w w'
end Go.Proofs.Ytfppglfajbmapaa.Pc
