/- Arguments that are slices of any elements, opened; networks. -/
import Derived.Test.YtodhgpjcklhboaaLOpen
import Derived.Test.YtodhgpjcklhboaaNr
namespace Go.Proofs.Ytodhgpjcklhboaa.Lo.Ne
open Go.ChangeShapes Go.WideShapes Go.RowKit

section
variable {H : Type} {enc : TypeId × Value → H} {W : World} {sp : Nat → Bool}

theorem open_rows {α : Type} {E : El α} (hst : 0 < E.st) {ts te : TypeId} (hu : Try.prog.underlying ts = some (.slice te)) (hc : Try.prog.cellsOf te = E.st)
    (hel : ∀ (fuel : Nat) (cs : List Value) (x : DataW H × List MemPlace), DataW.trod enc Try.prog W 0 sp true fuel te cs = some x → cs.length = E.st → ∀ b o, (∀ k, k < E.st → W.cell? ⟨b, o + k, none⟩ = cs[k]?) → ∃ y, E.P W b o y)
    {fuel : Nat} {sv : Value} {x : DataW H × List MemPlace} (h : DataW.trod enc Try.prog W 0 sp true fuel ts [sv] = some x) : ∃ l, SlG E W sv l := by
  rcases DataW.trod_slice hu h with ⟨h0, -⟩ | ⟨a, len, cap, elems, rest, n, rfl, h0, -, -, hl, hm, hlen, hel', -, -⟩
  · simp only [List.cons.injEq, and_true] at h0
    exact ⟨[], h0 ▸ SlG.nil⟩
  · simp only [List.cons.injEq, and_true] at h0
    subst h0
    rw [hc] at hel'
    have one : ∀ i, i < len → (i = 0 → a = ⟨a.block, a.off, none⟩) ∧ ∃ y, E.P W a.block (a.off + i * E.st) y := by
      intro i hi
      have key := hel' i hi
      rw [List.getElem?_eq_getElem (by omega)] at key
      obtain ⟨cs', h1, h2⟩ := Option.bind_eq_some_iff.1 key
      obtain ⟨-, hl6, hat⟩ := World.cells?_some h1
      have a0 := hat 0 hst
      rw [List.getElem?_eq_getElem (by omega)] at a0
      have e := add_spot a (i * E.st) _ (show W.cell? (a.add (i * E.st)) = some cs'[0] by simpa [Addr.add] using a0)
      refine ⟨?_, hel n cs' _ h2 hl6 _ _ (fun k hk => ?_)⟩
      · rintro rfl
        simpa [Addr.add] using e
      · have := hat k hk
        rw [e] at this
        simp only [Addr.add] at this
        split at this
        · rename_i hk0
          subst hk0
          exact this
        · exact this
    have down : ∀ j, j ≤ len → ∃ g : List α, g.length = j ∧ RowG E W a.block (a.off + (len - j) * E.st) g := by
      intro j
      induction j with
      | zero => intro _; exact ⟨[], rfl, trivial⟩
      | succ j ihj =>
        intro hj
        obtain ⟨g, hg, hr⟩ := ihj (by omega)
        obtain ⟨-, y, hy⟩ := one (len - (j + 1)) (by omega)
        refine ⟨y :: g, by simp only [List.length_cons]; omega, hy, ?_⟩
        rw [show a.off + (len - (j + 1)) * E.st + E.st = a.off + (len - j) * E.st by rw [show len - j = (len - (j + 1)) + 1 by omega, Nat.succ_mul, Nat.add_assoc]]
        exact hr
    obtain ⟨f, hf, hr⟩ := down len (Nat.le_refl _)
    refine ⟨f, some a, cap, by rw [hf], by omega, hm, ?_⟩
    cases f with
    | nil => exact Or.inl rfl
    | cons y rest' =>
      right
      simp only [List.length_cons] at hf
      obtain ⟨ha, -⟩ := one 0 (by omega)
      refine ⟨a.block, a.off, by rw [← ha rfl], ?_⟩
      simpa using hr

theorem Try.cells37 : Try.prog.cellsOf ( /- t -/ 37) = 1 := by kernel_rfl
theorem Try.cells38 : Try.prog.cellsOf ( /- t -/ 38) = 1 := by kernel_rfl
theorem Try.cells40 : Try.prog.cellsOf ( /- t -/ 40) = 2 := by kernel_rfl

theorem open_locals {fuel : Nat} {sv : Value} {x : DataW H × List MemPlace} (h : DataW.trod enc Try.prog W 0 sp true fuel ( /- t -/ 37) [sv] = some x) : ∃ l, SlG elL W sv l := by
  refine open_rows (by decide) Try.underlying37 (by exact Try.cells131) (fun fuel cs x hx hl b o hc => ?_) h
  obtain ⟨k, fr, ix, sv, n, y, -, rfl, w1, w3, w4, g⟩ := open_node hx
  obtain ⟨kids, hk⟩ := open_tree n sv y g
  exact ⟨⟨k, fr, ix, kids⟩, w1, w3, w4, hc 0 (by decide), hc 1 (by decide), hc 2 (by decide), sv, hc 3 (by decide), hk⟩
theorem open_strings {fuel : Nat} {sv : Value} {x : DataW H × List MemPlace} (h : DataW.trod enc Try.prog W 0 sp true fuel ( /- t -/ 38) [sv] = some x) : ∃ l, SlG elS W sv l := by
  refine open_rows (by decide) Try.underlying38 (by exact Try.cells9) (fun fuel cs x hx hl b o hc => ?_) h
  obtain ⟨s, rfl, -, w1⟩ := DataW.trod_string Try.underlying9 hx
  exact ⟨s, w1, hc 0 (by decide)⟩

set_option maxRecDepth 100000 in
/-- An argument of the type laws.Network. -/
theorem open_network {b0 : Nat} {v : Value} {d : DataW H} {p : List MemPlace} (hv : Value.okWide Try.prog W .any b0 ( /- t -/ 40) v) (h : DataW.Trod enc Try.prog W 0 sp true ( /- t -/ 40) v d p) :
    ∃ (lv qv : Value) (l : List Nd) (q : List ByteArray), v = .agg #[lv, qv] ∧ SlG elL W lv l ∧ SlG elS W qv q := by
  obtain ⟨cs, rfl, hsz⟩ := okWide_struct Try.underlying40 hv
  obtain ⟨fuel, hf⟩ := h
  obtain ⟨xs, n, rfl, -, hlen, hxl, hf⟩ := DataW.trod_struct Try.underlying40 hf
  rw [Try.cells40] at hlen
  obtain ⟨l⟩ := cs
  simp only [Value.cells] at hlen hf
  match l, hlen, xs, hxl with
  | [c0, c1], _, [x0, x1], _ =>
    have g0 : DataW.trod enc Try.prog W 0 sp true n ( /- t -/ 37) (([c0, c1].drop 0).take (Try.prog.cellsOf ( /- t -/ 37))) = some x0 := hf 0 _ rfl
    have g1 : DataW.trod enc Try.prog W 0 sp true n ( /- t -/ 38) (([c0, c1].drop 1).take (Try.prog.cellsOf ( /- t -/ 38))) = some x1 := hf 1 _ rfl
    simp only [Try.cells37, Try.cells38] at g0 g1
    obtain ⟨ll, hl⟩ := open_locals (show DataW.trod enc Try.prog W 0 sp true n ( /- t -/ 37) [c0] = some x0 from g0)
    obtain ⟨q, hq⟩ := open_strings (show DataW.trod enc Try.prog W 0 sp true n ( /- t -/ 38) [c1] = some x1 from g1)
    exact ⟨c0, c1, ll, q, rfl, hl, hq⟩
end
end Go.Proofs.Ytodhgpjcklhboaa.Lo.Ne
