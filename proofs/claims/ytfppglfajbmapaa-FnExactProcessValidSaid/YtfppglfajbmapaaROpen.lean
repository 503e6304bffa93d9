/- An argument of the law's own type Process, opened: it reads as a tree. -/
import Derived.Test.YtfppglfajbmapaaLaw
import Derived.Test.YtfppglfajbmapaaRTree
import Derived.ChangeArms
namespace Go.Proofs.Ytfppglfajbmapaa.Pc
open Go.ChangeShapes Go.WideShapes Go.RowKit

theorem Try.cells43 : Try.prog.cellsOf ( /- t -/ 43) = 5 := by kernel_rfl
theorem Try.cells138 : Try.prog.cellsOf ( /- t -/ 138) = 6 := by kernel_rfl
theorem Try.cells9 : Try.prog.cellsOf ( /- t -/ 9) = 1 := by kernel_rfl
theorem Try.cells3 : Try.prog.cellsOf ( /- t -/ 3) = 1 := by kernel_rfl
theorem Try.cells41 : Try.prog.cellsOf ( /- t -/ 41) = 1 := by kernel_rfl

section
variable {H : Type} {enc : TypeId × Value → H} {W : World} {sp : Nat → Bool}

set_option maxRecDepth 100000 in
theorem open_node {fuel : Nat} {cs : List Value} {x : DataW H × List MemPlace} (h : DataW.trod enc Try.prog W 0 sp true fuel ( /- t -/ 43) cs = some x) :
    ∃ (k : Int) (fr to : ByteArray) (ix : Int) (sv : Value) (n : Nat) (y : DataW H × List MemPlace), fuel = n + 1 ∧ cs = [.int .i64 k, .string fr, .string to, .int .i64 ix, sv] ∧ fr.size ≤ maxLen ∧ to.size ≤ maxLen ∧
      (Lit.int .i64 k).wf = true ∧ (Lit.int .i64 ix).wf = true ∧ DataW.trod enc Try.prog W 0 sp true n ( /- t -/ 41) [sv] = some y := by
  obtain ⟨xs, n, rfl, -, hlen, hxl, hf⟩ := DataW.trod_struct Try.underlying43 h
  rw [Try.cells43] at hlen
  match cs, hlen, xs, hxl with
  | [c0, c1, c2, c3, c4], _, [x0, x1, x2, x3, x4], _ =>
    have g0 : DataW.trod enc Try.prog W 0 sp true n ( /- t -/ 3) (([c0, c1, c2, c3, c4].drop 0).take (Try.prog.cellsOf ( /- t -/ 3))) = some x0 := hf 0 _ rfl
    have g1 : DataW.trod enc Try.prog W 0 sp true n ( /- t -/ 9) (([c0, c1, c2, c3, c4].drop 1).take (Try.prog.cellsOf ( /- t -/ 9))) = some x1 := hf 1 _ rfl
    have g2 : DataW.trod enc Try.prog W 0 sp true n ( /- t -/ 9) (([c0, c1, c2, c3, c4].drop 2).take (Try.prog.cellsOf ( /- t -/ 9))) = some x2 := hf 2 _ rfl
    have g3 : DataW.trod enc Try.prog W 0 sp true n ( /- t -/ 3) (([c0, c1, c2, c3, c4].drop 3).take (Try.prog.cellsOf ( /- t -/ 3))) = some x3 := hf 3 _ rfl
    have g4 : DataW.trod enc Try.prog W 0 sp true n ( /- t -/ 41) (([c0, c1, c2, c3, c4].drop 4).take (Try.prog.cellsOf ( /- t -/ 41))) = some x4 := hf 4 _ rfl
    simp only [Try.cells3, Try.cells9, Try.cells41] at g0 g1 g2 g3 g4
    obtain ⟨k, e0, -, w0⟩ := DataW.trod_int Try.underlying3 g0
    obtain ⟨fr, e1, -, w1⟩ := DataW.trod_string Try.underlying9 g1
    obtain ⟨to, e2, -, w2⟩ := DataW.trod_string Try.underlying9 g2
    obtain ⟨ix, e3, -, w3⟩ := DataW.trod_int Try.underlying3 g3
    simp at e0 e1 e2 e3
    subst e0 e1 e2 e3
    exact ⟨k, fr, to, ix, c4, n, x4, rfl, rfl, w1, w2, w0, w3, g4⟩

set_option maxRecDepth 100000 in
theorem open_branch {fuel : Nat} {cs : List Value} {x : DataW H × List MemPlace} (h : DataW.trod enc Try.prog W 0 sp true fuel ( /- t -/ 138) cs = some x) :
    ∃ (lab : ByteArray) (k : Int) (fr to : ByteArray) (ix : Int) (sv : Value) (n : Nat) (y : DataW H × List MemPlace), n < fuel ∧ cs = [.string lab, .int .i64 k, .string fr, .string to, .int .i64 ix, sv] ∧ lab.size ≤ maxLen ∧ fr.size ≤ maxLen ∧ to.size ≤ maxLen ∧
      (Lit.int .i64 k).wf = true ∧ (Lit.int .i64 ix).wf = true ∧ DataW.trod enc Try.prog W 0 sp true n ( /- t -/ 41) [sv] = some y := by
  obtain ⟨xs, n, rfl, -, hlen, hxl, hf⟩ := DataW.trod_struct Try.underlying138 h
  rw [Try.cells138] at hlen
  match cs, hlen, xs, hxl with
  | [c0, c1, c2, c3, c4, c5], _, [x0, x1], _ =>
    have g0 : DataW.trod enc Try.prog W 0 sp true n ( /- t -/ 9) (([c0, c1, c2, c3, c4, c5].drop 0).take (Try.prog.cellsOf ( /- t -/ 9))) = some x0 := hf 0 _ rfl
    have g1 : DataW.trod enc Try.prog W 0 sp true n ( /- t -/ 43) (([c0, c1, c2, c3, c4, c5].drop 1).take (Try.prog.cellsOf ( /- t -/ 43))) = some x1 := hf 1 _ rfl
    simp only [Try.cells9, Try.cells43] at g0 g1
    obtain ⟨lab, e0, -, w0⟩ := DataW.trod_string Try.underlying9 g0
    obtain ⟨k, fr, to, ix, sv, m, y, rfl, e1, w1, w2, w3, w4, g4⟩ := open_node g1
    simp at e0 e1
    obtain ⟨rfl, rfl, rfl, rfl, rfl⟩ := e1
    subst e0
    exact ⟨lab, k, fr, to, ix, c5, m, y, by omega, rfl, w0, w1, w2, w3, w4, g4⟩

theorem add_spot (a : Addr) (i : Nat) (v : Value) (h : W.cell? (a.add i) = some v) : (a.add i) = ⟨a.block, a.off + i, none⟩ := by
  obtain ⟨b, o, s⟩ := a
  by_cases hi : i = 0
  · subst hi
    simp only [Addr.add, if_pos] at h ⊢
    cases s with
    | none => rfl
    | some t =>
      exfalso
      simp only [World.cell?] at h
      split at h <;> simp at h
  · simp [Addr.add, hi]

theorem open_tree : ∀ (fuel : Nat) (sv : Value) (x : DataW H × List MemPlace), DataW.trod enc Try.prog W 0 sp true fuel ( /- t -/ 41) [sv] = some x → ∃ f, Sl W sv f := by
  intro fuel
  induction fuel using Nat.strongRecOn with
  | ind fuel ih =>
    intro sv x h
    rcases DataW.trod_slice Try.underlying41 h with ⟨h0, -⟩ | ⟨a, len, cap, elems, rest, n, rfl, h0, -, -, hl, hm, hlen, hel, -, -⟩
    · simp only [List.cons.injEq, and_true] at h0
      exact ⟨.nil, h0 ▸ Sl.nil⟩
    · simp only [List.cons.injEq, and_true] at h0
      subst h0
      rw [Try.cells138] at hel
      have one : ∀ i, i < len → ∃ (lab : ByteArray) (k : Int) (fr to : ByteArray) (ix : Int) (kids : F) (b5 : Option Addr) (cap5 : Nat), ∃ b o, a.block = b ∧ a.off = o ∧ (i = 0 → a = ⟨b, o, none⟩) ∧ lab.size ≤ maxLen ∧ fr.size ≤ maxLen ∧ to.size ≤ maxLen ∧ (Lit.int .i64 k).wf = true ∧ (Lit.int .i64 ix).wf = true ∧
          W.cell? ⟨b, o + i * 6, none⟩ = some (.string lab) ∧ W.cell? ⟨b, o + i * 6 + 1, none⟩ = some (.int .i64 k) ∧ W.cell? ⟨b, o + i * 6 + 2, none⟩ = some (.string fr) ∧ W.cell? ⟨b, o + i * 6 + 3, none⟩ = some (.string to) ∧
          W.cell? ⟨b, o + i * 6 + 4, none⟩ = some (.int .i64 ix) ∧ W.cell? ⟨b, o + i * 6 + 5, none⟩ = some (.slice b5 kids.len cap5) ∧ kids.len ≤ cap5 ∧ cap5 ≤ maxLen ∧ (kids = .nil ∨ ∃ b' o', b5 = some ⟨b', o', none⟩ ∧ Row W b' o' kids) := by
        intro i hi
        have key := hel i hi
        rw [List.getElem?_eq_getElem (by omega)] at key
        obtain ⟨cs', h1, h2⟩ := Option.bind_eq_some_iff.1 key
        obtain ⟨-, hl6, hat⟩ := World.cells?_some h1
        obtain ⟨lab, k, fr, to, ix, sv', m, y, hmn, rfl, w0, w1, w2, w3, w4, g⟩ := open_branch h2
        obtain ⟨kids, b5, cap5, rfl, q1, q2, q3⟩ := ih m (by omega) sv' y g
        have a0 : W.cell? ((a.add (i * 6)).add 0) = some (.string lab) := hat 0 (by omega)
        have a1 : W.cell? ((a.add (i * 6)).add 1) = some (.int .i64 k) := hat 1 (by omega)
        have a2 : W.cell? ((a.add (i * 6)).add 2) = some (.string fr) := hat 2 (by omega)
        have a3 : W.cell? ((a.add (i * 6)).add 3) = some (.string to) := hat 3 (by omega)
        have a4 : W.cell? ((a.add (i * 6)).add 4) = some (.int .i64 ix) := hat 4 (by omega)
        have a5 : W.cell? ((a.add (i * 6)).add 5) = some (.slice b5 kids.len cap5) := hat 5 (by omega)
        have a0' : W.cell? (a.add (i * 6)) = some (.string lab) := a0
        have e := add_spot a (i * 6) _ a0'
        rw [e] at a0' a1 a2 a3 a4 a5
        refine ⟨lab, k, fr, to, ix, kids, b5, cap5, a.block, a.off, rfl, rfl, ?_, w0, w1, w2, w3, w4, a0', ?_, ?_, ?_, ?_, ?_, q1, q2, q3⟩
        · rintro rfl
          simpa [Addr.add] using e
        · simpa [Addr.add] using a1
        · simpa [Addr.add] using a2
        · simpa [Addr.add] using a3
        · simpa [Addr.add] using a4
        · simpa [Addr.add] using a5
      have down : ∀ j, j ≤ len → ∃ g : F, g.len = j ∧ Row W a.block (a.off + (len - j) * 6) g := by
        intro j
        induction j with
        | zero => intro _; exact ⟨.nil, rfl, trivial⟩
        | succ j ihj =>
          intro hj
          obtain ⟨g, hg, hr⟩ := ihj (by omega)
          obtain ⟨lab, k, fr, to, ix, kids, b5, cap5, b, o, rfl, rfl, -, w0, w1, w2, w3, w4, a0, a1, a2, a3, a4, a5, q1, q2, q3⟩ := one (len - (j + 1)) (by omega)
          refine ⟨.cons lab k fr to ix kids g, by simp only [F.len]; omega, w0, w1, w2, w3, w4, a0, a1, a2, a3, a4, ⟨b5, cap5, a5, q1, q2, q3⟩, ?_⟩
          rw [show a.off + (len - (j + 1)) * 6 + 6 = a.off + (len - j) * 6 by omega]
          exact hr
      obtain ⟨f, hf, hr⟩ := down len (Nat.le_refl _)
      refine ⟨f, some a, cap, by rw [hf], by omega, hm, ?_⟩
      cases f with
      | nil => exact Or.inl rfl
      | cons lab k fr to ix kids rest' =>
        right
        simp only [F.len] at hf
        obtain ⟨_, _, _, _, _, _, _, _, b, o, rfl, rfl, ha, -⟩ := one 0 (by omega)
        refine ⟨a.block, a.off, by rw [← ha rfl], ?_⟩
        simpa using hr

set_option maxRecDepth 100000 in
/-- An argument of the type laws.Process. -/
theorem open_process {b0 : Nat} {v : Value} {d : DataW H} {p : List MemPlace} (hv : Value.okWide Try.prog W .any b0 ( /- t -/ 43) v) (h : DataW.Trod enc Try.prog W 0 sp true ( /- t -/ 43) v d p) :
    ∃ (k : Int) (fr to : ByteArray) (ix : Int) (sv : Value) (kids : F), v = .agg #[.int .i64 k, .string fr, .string to, .int .i64 ix, sv] ∧ fr.size ≤ maxLen ∧ to.size ≤ maxLen ∧ (Lit.int .i64 k).wf = true ∧ (Lit.int .i64 ix).wf = true ∧ Sl W sv kids := by
  obtain ⟨cs, rfl, hsz⟩ := okWide_struct Try.underlying43 hv
  obtain ⟨fuel, hf⟩ := h
  obtain ⟨k, fr, to, ix, sv, n, y, -, hcs, w1, w2, w3, w4, g⟩ := open_node hf
  obtain ⟨kids, hk⟩ := open_tree n sv y g
  refine ⟨k, fr, to, ix, sv, kids, ?_, w1, w2, w3, w4, hk⟩
  obtain ⟨l⟩ := cs
  simp only [Value.cells] at hcs
  rw [hcs]
end
end Go.Proofs.Ytfppglfajbmapaa.Pc
