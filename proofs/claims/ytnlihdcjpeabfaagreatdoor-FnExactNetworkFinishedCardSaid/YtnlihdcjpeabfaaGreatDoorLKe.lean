/- The recursions around a linked node, as trees: the environment in which a linked node is written out again. -/
import Derived.Test.YtnlihdcjpeabfaaGreatDoorLUy
import Derived.Test.YtnlihdcjpeabfaaGreatDoorLKt
namespace Go.Proofs.YtnlihdcjpeabfaaGreatDoor.Lo
open Go.RowKit

/-- The blocks of the recursions, the outermost first; the list has the innermost first. -/
def blks (es : List (Nat × Nd)) : List Nat := (es.map Prod.fst).reverse
theorem blks_cons (b : Nat) (g : Nd) (es : List (Nat × Nd)) : blks ((b, g) :: es) = blks es ++ [b] := by
  simp [blks]
theorem blks_len (es : List (Nat × Nd)) : (blks es).length = es.length := by simp [blks]
theorem blks_mem {es : List (Nat × Nd)} {b : Nat} (h : b ∈ blks es) : ∃ g, (b, g) ∈ es := by
  simp only [blks, List.mem_reverse, List.mem_map] at h
  obtain ⟨⟨b', g⟩, h1, rfl⟩ := h
  exact ⟨g, h1⟩

/-- What stands for the recursions when they are written out. -/
def lvals : List (Nat × Nd) → List (Option Nd)
  | [] => []
  | (_, g) :: es => some (cpN (lvals es) g) :: lvals es
/-- .. and the innermost m of them are around. -/
def lenv : Nat → List (Nat × Nd) → List (Option Nd)
  | 0, es => lvals es
  | _ + 1, [] => []
  | m + 1, _ :: es => none :: lenv m es
theorem lvals_len : ∀ es, (lvals es).length = es.length
  | [] => rfl
  | (_, _) :: es => by simp [lvals, lvals_len es]
theorem lenv_len : ∀ m es, (lenv m es).length = es.length
  | 0, es => lvals_len es
  | _ + 1, [] => rfl
  | m + 1, _ :: es => by simp [lenv, lenv_len m es]
theorem lenv_in : ∀ (m i : Nat) (es : List (Nat × Nd)), i < m → i < es.length → ((lenv m es)[i]?).join = none
  | 0, _, _, h, _ => by omega
  | _ + 1, _, [], _, h => by simp at h
  | m + 1, 0, _ :: es, _, _ => rfl
  | m + 1, i + 1, _ :: es, h, h2 => by
    have := lenv_in m i es (by omega) (by simp at h2; omega)
    simpa [lenv] using this
theorem lenv_out : ∀ (m : Nat) (p : List (Nat × Nd)) (b : Nat) (g : Nd) (t : List (Nat × Nd)), m ≤ p.length → ((lenv m (p ++ (b, g) :: t))[p.length]?).join = some (cpN (lvals t) g)
  | 0, [], b, g, t, _ => rfl
  | 0, (b', g') :: p, b, g, t, _ => by
    have := lenv_out 0 p b g t (by omega)
    simpa [lenv, lvals] using this
  | m + 1, [], b, g, t, h => by simp at h
  | m + 1, (b', g') :: p, b, g, t, h => by
    have := lenv_out m p b g t (by simp at h; omega)
    simpa [lenv] using this

/-- Every recursion of the environment is linked in its place. -/
def EnvL (w0 : World) : List (Nat × Nd) → Prop
  | [] => True
  | (b, g) :: es => g.k = 4 ∧ wN g (es.length : Int) 0 = true ∧
      (∃ ks, LkN w0 g.k g.fr g.ix g.kids (blks es) (.iface ( /- t -/ 116) (.pointer (some ⟨b, 0, none⟩))) ks) ∧ b ∉ blks es ∧ EnvL w0 es

theorem EnvL.suffix {w0 : World} : ∀ (p es : List (Nat × Nd)), EnvL w0 (p ++ es) → EnvL w0 es
  | [], _, h => h
  | (_, _) :: p, es, h => EnvL.suffix p es h.2.2.2.2
theorem EnvL.nodup {w0 : World} : ∀ (es : List (Nat × Nd)), EnvL w0 es → (blks es).Nodup
  | [], _ => List.nodup_nil
  | (b, g) :: es, h => by
    rw [blks_cons]
    exact nodup_snoc (EnvL.nodup es h.2.2.2.2) h.2.2.2.1
theorem EnvL.below {w0 w : World} (hb : Same w0 w (List.range w0.heap.size)) : ∀ (es : List (Nat × Nd)), EnvL w0 es → EnvL w es
  | [], _ => trivial
  | (b, g) :: es, h => by
    obtain ⟨h1, h2, ⟨ks, h3⟩, h4, h5⟩ := h
    exact ⟨h1, h2, ⟨ks, h3.same (fun x hx => hb x (List.mem_range.2 (h3.lt x hx)))⟩, h4, EnvL.below hb es h5⟩
theorem EnvL.blk {w0 : World} : ∀ (es : List (Nat × Nd)), EnvL w0 es → ∀ x, x ∈ blks es → ∃ cs, Blk w0 x cs
  | [], _, x, hx => by simp [blks] at hx
  | (b, g) :: es, h, x, hx => by
    obtain ⟨h1, h2, ⟨ks, h3⟩, h4, h5⟩ := h
    rw [blks_cons, List.mem_append] at hx
    rcases hx with hx | hx
    · exact EnvL.blk es h5 x hx
    · rw [List.mem_singleton.1 hx]
      rcases h3 with ⟨h3, -⟩ | ⟨h3, -⟩ | ⟨-, L, s, u, ks', h3, hb, -⟩ | ⟨h3, -⟩
      · omega
      · omega
      · injection h3 with _ h3
        injection h3 with h3
        injection h3 with h3
        injection h3 with h3
        subst h3
        exact ⟨_, hb⟩
      · omega

theorem empty_of {fr : ByteArray} (h : fr.toList = []) : fr = ⟨#[]⟩ := by
  rw [ByteArray.toList_eq] at h
  cases fr with
  | mk d =>
    have h2 : d = #[] := by simpa using h
    rw [h2]
theorem empty_size {fr : ByteArray} (h : fr.toList = []) : fr.size ≤ maxLen := by
  rw [empty_of h]
  exact Nat.zero_le _
theorem int_wf {x : Int} (h0 : 0 ≤ x) (h1 : x ≤ 1000000000) : (Lit.int .i64 x).wf = true := by
  have e1 : IntKind.i64.min = -9223372036854775808 := rfl
  have e2 : IntKind.i64.max = 9223372036854775807 := rfl
  simp only [Lit.wf, Bool.and_eq_true, decide_eq_true_eq]
  rw [e1, e2]
  omega

/-- A node that fits its place fits into values. -/
theorem fit_of_w {g : Nd} {b u : Int} (h : wN g b u = true) (hu : 0 ≤ u) (hb : b ≤ 1000000) : Fit g := by
  unfold wN at h
  simp only [Bool.and_eq_true] at h
  obtain ⟨h1, h2⟩ := h
  have h0 : (Lit.int .i64 0).wf = true := by decide
  by_cases k1 : g.k = 1
  · rw [k1] at h1
    obtain ⟨a, c, -⟩ := shape_end h1
    refine ⟨empty_size a, by rw [k1]; decide, by rw [c]; exact h0⟩
  by_cases k2 : g.k = 2 ∨ g.k = 3
  · obtain ⟨a, c, -⟩ := shape_act k2 h1
    refine ⟨by rw [role_size a]; decide, by rcases k2 with e | e <;> rw [e] <;> decide, by rw [c]; exact h0⟩
  by_cases k4 : g.k = 4
  · rw [k4] at h1
    obtain ⟨a, c, -⟩ := shape_rec h1
    refine ⟨empty_size a, by rw [k4]; decide, by rw [c]; exact h0⟩
  by_cases k5 : g.k = 5
  · rw [k5] at h1
    obtain ⟨a, -⟩ := shape_var h1
    rw [if_pos k5] at h2
    simp only [Bool.and_eq_true, decide_eq_true_eq] at h2
    refine ⟨empty_size a, by rw [k5]; decide, ?_⟩
    exact int_wf (by omega) (by omega)
  · simp [shapeB, k1, k2, k4, k5] at h1

theorem EnvL.fits {w0 : World} : ∀ (es : List (Nat × Nd)), EnvL w0 es → es.length ≤ 1000000 → ∀ U, some U ∈ lvals es → Fit U
  | [], _, _, U, hU => by simp [lvals] at hU
  | (b, g) :: es, h, hl, U, hU => by
    obtain ⟨h1, h2, -, -, h5⟩ := h
    have hl2 : es.length ≤ 1000000 := by simp at hl; omega
    simp only [lvals, List.mem_cons, Option.some.injEq] at hU
    rcases hU with rfl | hU
    · exact cpN_fit (EnvL.fits es h5 hl2) (fit_of_w h2 (by omega) (by omega))
    · exact EnvL.fits es h5 hl2 U hU
theorem EnvL.fitsM {w0 : World} : ∀ (m : Nat) (es : List (Nat × Nd)), EnvL w0 es → es.length ≤ 1000000 → ∀ U, some U ∈ lenv m es → Fit U
  | 0, es, h, hl, U, hU => EnvL.fits es h hl U hU
  | _ + 1, [], _, _, U, hU => by simp [lenv] at hU
  | m + 1, (b, g) :: es, h, hl, U, hU => by
    simp only [lenv, List.mem_cons, reduceCtorEq, false_or] at hU
    exact EnvL.fitsM m es h.2.2.2.2 (by simp at hl; omega) U hU

/-- A linked variable is linked to its recursion. -/
theorem linked_var {w0 : World} {fr : ByteArray} {ix : Int} {kids : F} {es : List (Nat × Nd)} {v : Value} {ks : List Nat} (h : LkN w0 5 fr ix kids (blks es) v ks) :
    ∃ p b g t, es = p ++ (b, g) :: t ∧ ix = (p.length : Nat) ∧ v = .iface ( /- t -/ 120) (.agg #[.pointer (some ⟨b, 0, none⟩)]) := by
  rcases h with ⟨h, -⟩ | ⟨-, ⟨l, h0, h1, h2, rfl⟩, -⟩ | ⟨h, -⟩ | ⟨h, -⟩
  · exact absurd h (by decide)
  · obtain ⟨i, rfl⟩ := Int.eq_ofNat_of_zero_le h0
    rw [blks_len] at h1 h2
    have hi : i < es.length := by omega
    simp only [Int.toNat_natCast] at h2
    have h3 : (es.map Prod.fst)[i]? = some l := by
      unfold blks at h2
      rw [List.getElem?_reverse (by simp; omega)] at h2
      simp only [List.length_map] at h2
      rwa [show es.length - 1 - (es.length - 1 - i) = i by omega] at h2
    rw [List.getElem?_map, List.getElem?_eq_getElem hi] at h3
    have h4 : es[i].1 = l := by simpa using h3
    refine ⟨es.take i, es[i].1, es[i].2, es.drop (i + 1), ?_, ?_, ?_⟩
    · rw [show (es[i].1, es[i].2) = es[i] from rfl]
      rw [List.getElem_cons_drop hi]
      exact (List.take_append_drop i es).symm
    · rw [List.length_take]; omega
    · rw [h4]
  · exact absurd h (by decide)
  · rcases h with h | h <;> exact absurd h (by decide)

theorem nodup_rev {l : List Nat} : l.reverse.Nodup ↔ l.Nodup := by
  unfold List.Nodup
  rw [List.pairwise_reverse]
  constructor
  · exact fun h => h.imp Ne.symm
  · exact fun h => h.imp Ne.symm

/-! ### The scope holds the innermost m of them -/
theorem scope_in (p : List (Nat × Nd)) (b : Nat) (g : Nd) (t : List (Nat × Nd)) (m : Nat) (h : p.length < m) (hm : m ≤ (p ++ (b, g) :: t).length) :
    (blks ((p ++ (b, g) :: t).take m))[m - 1 - p.length]? = some b ∧ (blks ((p ++ (b, g) :: t).take m)).length = (m - 1 - p.length) + 1 + p.length := by
  have hl : ((p ++ (b, g) :: t).take m).length = m := by rw [List.length_take]; omega
  refine ⟨?_, by rw [blks_len, hl]; omega⟩
  unfold blks
  rw [List.getElem?_reverse (by rw [List.length_map, hl]; omega), List.length_map, hl, show m - 1 - (m - 1 - p.length) = p.length by omega, List.getElem?_map, List.getElem?_take_of_lt h, List.getElem?_append_right (Nat.le_refl _)]
  simp
theorem scope_out {w0 : World} (p : List (Nat × Nd)) (b : Nat) (g : Nd) (t : List (Nat × Nd)) (m : Nat) (h : m ≤ p.length) (he : EnvL w0 (p ++ (b, g) :: t)) : b ∉ blks ((p ++ (b, g) :: t).take m) := by
  intro hb
  have hnd := he.nodup
  rw [List.take_append_of_le_length h] at hb
  have hb2 : b ∈ p.map Prod.fst := by
    simp only [blks, List.mem_reverse, List.mem_map] at hb ⊢
    obtain ⟨x, hx, rfl⟩ := hb
    exact ⟨x, List.mem_of_mem_take hx, rfl⟩
  unfold blks at hnd
  rw [nodup_rev, List.map_append, List.nodup_append] at hnd
  exact hnd.2.2 b hb2 b (by simp) rfl
theorem scope_nodup {w0 : World} (es : List (Nat × Nd)) (m : Nat) (he : EnvL w0 es) : (blks (es.take m)).Nodup := by
  have := he.nodup
  unfold blks at this ⊢
  rw [nodup_rev] at this ⊢
  rw [List.map_take]
  exact this.sublist (List.take_sublist _ _)
theorem scope_mem {es : List (Nat × Nd)} {m x : Nat} (h : x ∈ blks (es.take m)) : x ∈ blks es := by
  simp only [blks, List.mem_reverse, List.mem_map] at h ⊢
  obtain ⟨y, hy, rfl⟩ := h
  exact ⟨y, List.mem_of_mem_take hy, rfl⟩
theorem scope_len (es : List (Nat × Nd)) (m : Nat) (h : m ≤ es.length) : (blks (es.take m)).length = m := by
  rw [blks_len, List.length_take]; omega
end Go.Proofs.YtnlihdcjpeabfaaGreatDoor.Lo
