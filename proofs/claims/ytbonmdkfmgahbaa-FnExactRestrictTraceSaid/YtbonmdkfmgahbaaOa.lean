/- Arguments that are slices of actions, opened. -/
import Derived.Test.YtbonmdkfmgahbaaOr
import Derived.Test.YtbonmdkfmgahbaaAc
namespace Go.Proofs.Ytbonmdkfmgahbaa.Lo.Ne
open Go.ChangeShapes Go.WideShapes Go.RowKit

section
variable {H : Type} {enc : TypeId × Value → H} {W : World} {sp : Nat → Bool}

theorem Try.cells_act : Try.prog.cellsOf ( /- t -/ 61) = 4 := by kernel_rfl
theorem Try.cells_str : Try.prog.cellsOf ( /- t -/ 9) = 1 := by kernel_rfl
theorem Try.cells_bool : Try.prog.cellsOf ( /- t -/ 4) = 1 := by kernel_rfl

set_option maxRecDepth 100000 in
theorem open_action {fuel : Nat} {cs : List Value} {x : DataW H × List MemPlace} (h : DataW.trod enc Try.prog W 0 sp true fuel ( /- t -/ 61) cs = some x) :
    ∃ (r p l : ByteArray) (rc : Bool), cs = [.string r, .bool rc, .string p, .string l] ∧ r.size ≤ maxLen ∧ p.size ≤ maxLen ∧ l.size ≤ maxLen := by
  obtain ⟨xs, n, rfl, -, hlen, hxl, hf⟩ := DataW.trod_struct Try.underlying61 h
  rw [Try.cells_act] at hlen
  match cs, hlen, xs, hxl with
  | [c0, c1, c2, c3], _, [x0, x1, x2, x3], _ =>
    have g0 : DataW.trod enc Try.prog W 0 sp true n ( /- t -/ 9) (([c0, c1, c2, c3].drop 0).take (Try.prog.cellsOf ( /- t -/ 9))) = some x0 := hf 0 _ rfl
    have g1 : DataW.trod enc Try.prog W 0 sp true n ( /- t -/ 4) (([c0, c1, c2, c3].drop 1).take (Try.prog.cellsOf ( /- t -/ 4))) = some x1 := hf 1 _ rfl
    have g2 : DataW.trod enc Try.prog W 0 sp true n ( /- t -/ 9) (([c0, c1, c2, c3].drop 2).take (Try.prog.cellsOf ( /- t -/ 9))) = some x2 := hf 2 _ rfl
    have g3 : DataW.trod enc Try.prog W 0 sp true n ( /- t -/ 9) (([c0, c1, c2, c3].drop 3).take (Try.prog.cellsOf ( /- t -/ 9))) = some x3 := hf 3 _ rfl
    simp only [Try.cells_str, Try.cells_bool] at g0 g1 g2 g3
    obtain ⟨r, e0, -, w0⟩ := DataW.trod_string Try.underlying9 g0
    obtain ⟨rc, e1, -⟩ := DataW.trod_bool Try.underlying4 g1
    obtain ⟨p, e2, -, w2⟩ := DataW.trod_string Try.underlying9 g2
    obtain ⟨l, e3, -, w3⟩ := DataW.trod_string Try.underlying9 g3
    simp at e0 e1 e2 e3
    subst e0 e1 e2 e3
    exact ⟨r, p, l, rc, rfl, w0, w2, w3⟩

/-- An argument of the type []laws.Action. -/
theorem open_actions {v : Value} {d : DataW H} {p : List MemPlace} {ts : TypeId} (hu : Try.prog.underlying ts = some (.slice ( /- t -/ 61))) (hv : ∃ a len cap, v = .slice a len cap)
    (h : DataW.Trod enc Try.prog W 0 sp true ts v d p) : ∃ l, SlG elA W v l := by
  obtain ⟨fuel, hf⟩ := h
  obtain ⟨a, len, cap, rfl⟩ := hv
  refine open_rows (E := elA) (by decide) hu Try.cells_act (fun fuel cs x hx hl b o hc => ?_) hf
  obtain ⟨r, p, l, rc, rfl, w1, w2, w3⟩ := open_action hx
  exact ⟨⟨r, rc, p, l⟩, w1, w2, w3, hc 0 (by decide), hc 1 (by decide), hc 2 (by decide), hc 3 (by decide)⟩
end
end Go.Proofs.Ytbonmdkfmgahbaa.Lo.Ne
