/- What a linked node is, kind by kind, and what the type switches of the program answer. -/
import Derived.Test.YtfppglfajbmapaaDoorLLb
import Derived.Test.YtfppglfajbmapaaDoorLTx
namespace Go.Proofs.YtfppglfajbmapaaDoor.Lo
open Go.RowKit

/-! ### The type switch -/
theorem taEndEnd (v : Value) (w : World) : (Instr.typeAssert (.iface ( /- t -/ 193) v) ( /- t -/ 87) ( /- t -/ 193) true).run Tryd.prog w = .ok (.tuple #[v, .bool true]) w := by kernel_rfl
theorem taVarEnd (v : Value) (w : World) : (Instr.typeAssert (.iface ( /- t -/ 196) v) ( /- t -/ 87) ( /- t -/ 193) true).run Tryd.prog w = .ok (.tuple #[.agg #[], .bool false]) w := by kernel_rfl
theorem taLoopEnd (v : Value) (w : World) : (Instr.typeAssert (.iface ( /- t -/ 194) v) ( /- t -/ 87) ( /- t -/ 193) true).run Tryd.prog w = .ok (.tuple #[.agg #[], .bool false]) w := by kernel_rfl
theorem taActEnd (v : Value) (w : World) : (Instr.typeAssert (.iface ( /- t -/ 93) v) ( /- t -/ 87) ( /- t -/ 193) true).run Tryd.prog w = .ok (.tuple #[.agg #[], .bool false]) w := by kernel_rfl
theorem taVarVar (v : Value) (w : World) : (Instr.typeAssert (.iface ( /- t -/ 196) v) ( /- t -/ 87) ( /- t -/ 196) true).run Tryd.prog w = .ok (.tuple #[v, .bool true]) w := by kernel_rfl
theorem taLoopVar (v : Value) (w : World) : (Instr.typeAssert (.iface ( /- t -/ 194) v) ( /- t -/ 87) ( /- t -/ 196) true).run Tryd.prog w = .ok (.tuple #[.agg #[.pointer none], .bool false]) w := by kernel_rfl
theorem taActVar (v : Value) (w : World) : (Instr.typeAssert (.iface ( /- t -/ 93) v) ( /- t -/ 87) ( /- t -/ 196) true).run Tryd.prog w = .ok (.tuple #[.agg #[.pointer none], .bool false]) w := by kernel_rfl
theorem taLoopLoop (v : Value) (w : World) : (Instr.typeAssert (.iface ( /- t -/ 194) v) ( /- t -/ 87) ( /- t -/ 194) true).run Tryd.prog w = .ok (.tuple #[v, .bool true]) w := by kernel_rfl
theorem taActLoop (v : Value) (w : World) : (Instr.typeAssert (.iface ( /- t -/ 93) v) ( /- t -/ 87) ( /- t -/ 194) true).run Tryd.prog w = .ok (.tuple #[.pointer none, .bool false]) w := by kernel_rfl
theorem taActAct (v : Value) (w : World) : (Instr.typeAssert (.iface ( /- t -/ 93) v) ( /- t -/ 87) ( /- t -/ 93) true).run Tryd.prog w = .ok (.tuple #[v, .bool true]) w := by kernel_rfl
theorem taEndVar (v : Value) (w : World) : (Instr.typeAssert (.iface ( /- t -/ 193) v) ( /- t -/ 87) ( /- t -/ 196) true).run Tryd.prog w = .ok (.tuple #[.agg #[.pointer none], .bool false]) w := by kernel_rfl
theorem taEndLoop (v : Value) (w : World) : (Instr.typeAssert (.iface ( /- t -/ 193) v) ( /- t -/ 87) ( /- t -/ 194) true).run Tryd.prog w = .ok (.tuple #[.pointer none, .bool false]) w := by kernel_rfl
theorem taEndAct (v : Value) (w : World) : (Instr.typeAssert (.iface ( /- t -/ 193) v) ( /- t -/ 87) ( /- t -/ 93) true).run Tryd.prog w = .ok (.tuple #[.pointer none, .bool false]) w := by kernel_rfl

theorem linked_rec {w0 : World} {fr lab fr' : ByteArray} {ix k' ix' : Int} {kids' : F} {ps ks : List Nat} {v : Value} (h : LkN w0 4 fr ix (.cons lab k' fr' ix' kids' .nil) ps v ks) :
    ∃ L T x ks', v = .iface ( /- t -/ 194) (.pointer (some ⟨L, 0, none⟩)) ∧ Blk w0 L #[.iface T x] ∧ L ∉ ps ∧ LkN w0 k' fr' ix' kids' (ps ++ [L]) (.iface T x) ks' := by
  rcases h with ⟨h, -⟩ | ⟨h, -⟩ | ⟨-, L, s, u, ks', rfl, hb, hL, rfl, v', ys, k1, rs, e1, e2, hn, hr⟩ | ⟨h, -⟩
  · exact absurd h (by decide)
  · exact absurd h (by decide)
  · injection e1 with _ e1
    injection e1 with e1 _
    subst e1
    have hln : LkN w0 k' fr' ix' kids' (ps ++ [L]) u k1 := hn
    obtain ⟨T, x, rfl⟩ := hln.val
    exact ⟨L, T, x, k1, rfl, hb, hL, hln⟩
  · rcases h with h | h <;> exact absurd h (by decide)

theorem nodup_snoc {ps : List Nat} {L : Nat} (h : ps.Nodup) (hL : L ∉ ps) : (ps ++ [L]).Nodup :=
  List.nodup_append.2 ⟨h, by simp, fun x hx y hy => by rintro rfl; rw [List.mem_singleton.1 hy] at hx; exact hL hx⟩

theorem linked_act {w0 : World} {k ix : Int} {fr : ByteArray} {kids : F} {ps ks : List Nat} {v : Value} (hk : k = 2 ∨ k = 3) (h : LkN w0 k fr ix kids ps v ks) :
    ∃ A r cap cs xs ks', v = .iface ( /- t -/ 93) (.pointer (some ⟨A, 0, none⟩)) ∧ Blk w0 A #[.int .i64 k, .string fr, .slice (some ⟨r, 0, none⟩) kids.len cap] ∧ kids.len ≤ cap ∧ cap ≤ maxLen ∧ Blk w0 r cs ∧ cs.toList.take (kids.len * 2) = xs ∧ Lk w0 kids ps xs ks' := by
  rcases h with ⟨h, -⟩ | ⟨h, -⟩ | ⟨h, -⟩ | ⟨-, A, r, cap, cs, xs, ks', h1, h2, h3, h4, h5, h6, -, h8⟩
  · omega
  · omega
  · omega
  · exact ⟨A, r, cap, cs, xs, ks', h1, h2, h3, h4, h5, h6, h8⟩

/-- The next branch of a row. -/
theorem linked_next {w0 : World} {lab : ByteArray} {kd ix' : Int} {fr' : ByteArray} {kids' rest : F} {ps : List Nat} {xs ys : List Value} {rs : List Nat} {r n k : Nat} {cs : Array Value} (hl : Lk w0 (.cons lab kd fr' ix' kids' rest) ps ys rs) (hd : xs.drop (k * 2) = ys) (hr : Blk w0 r cs) (hx : cs.toList.take (n * 2) = xs) :
    ∃ T x ys' k1 r1, w0.cell? ⟨r, k * 2, none⟩ = some (.string lab) ∧ w0.cell? ⟨r, k * 2 + 1, none⟩ = some (.iface T x) ∧ LkN w0 kd fr' ix' kids' ps (.iface T x) k1 ∧ Lk w0 rest ps ys' r1 ∧ xs.drop ((k + 1) * 2) = ys' := by
  obtain ⟨v, ys', k1, r1, rfl, rfl, hn, hrest⟩ := hl
  have hln : LkN w0 kd fr' ix' kids' ps v k1 := hn
  obtain ⟨T, x, rfl⟩ := hln.val
  have g : ∀ i, xs[k * 2 + i]? = (Value.string lab :: Value.iface T x :: ys')[i]? := fun i => by rw [← hd, List.getElem?_drop]
  have cc : ∀ i v, xs[i]? = some v → w0.cell? ⟨r, i, none⟩ = some v := fun i v h => by
    rw [hr.cell i]
    rw [← hx, List.getElem?_take] at h
    split at h
    · simpa using h
    · cases h
  refine ⟨T, x, ys', k1, r1, cc _ _ (g 0), cc _ _ (g 1), hln, hrest, ?_⟩
  rw [show (k + 1) * 2 = k * 2 + 2 by omega, ← List.drop_drop, hd]
  rfl
end Go.Proofs.YtfppglfajbmapaaDoor.Lo
