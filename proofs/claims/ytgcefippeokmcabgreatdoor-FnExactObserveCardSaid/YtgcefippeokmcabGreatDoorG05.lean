/- LKe, LKn, LKm, LKk, LRt, LPs, Mt, LMk, LHe, Nk, LEq, Me -/
import Derived.Test.YtgcefippeokmcabGreatDoorG03
import Derived.Test.YtgcefippeokmcabGreatDoorG01
import Derived.Test.YtgcefippeokmcabGreatDoorG00
import Derived.Deep.CutRange
import Derived.Deep.RegionHeld3
import Derived.Deep.RegionWith
import Derived.Test.YtgcefippeokmcabGreatDoorRows
import Derived.WalkKit
import Derived.WalkSpells
import Derived.WalkLawsBesides
import Derived.StillTailTactics
/- The recursions around a linked node, as trees: the environment in which a linked node is written out again. -/
namespace Go.Proofs.YtgcefippeokmcabGreatDoor.Lo
open Go.RowKit

/-- The blocks of the recursions, the outermost first; the list has the innermost first. -/
def blks (es : List (Nat × Nd)) : List Nat := (es.map Prod.fst).reverse
theorem blks_cons (b : Nat) (g : Nd) (es : List (Nat × Nd)) : blks ((b, g) :: es) = blks es ++ [b] := by
  simp [blks]
theorem blks_len (es : List (Nat × Nd)) : (blks es).length = es.length := by simp [blks]
theorem blks_mem {es : List (Nat × Nd)} {b : Nat} (h : b ∈ blks es) : ∃ g, (b, g) ∈ es := by
  simp only [blks, List.mem_reverse, List.mem_map] at h
  obtain ⟨⟨b', g⟩, h1, rfl⟩ := h
  exact ⟨g, h1⟩

/-- What stands for the recursions when they are written out. -/
def lvals : List (Nat × Nd) → List (Option Nd)
  | [] => []
  | (_, g) :: es => some (cpN (lvals es) g) :: lvals es
/-- .. and the innermost m of them are around. -/
def lenv : Nat → List (Nat × Nd) → List (Option Nd)
  | 0, es => lvals es
  | _ + 1, [] => []
  | m + 1, _ :: es => none :: lenv m es
theorem lvals_len : ∀ es, (lvals es).length = es.length
  | [] => rfl
  | (_, _) :: es => by simp [lvals, lvals_len es]
theorem lenv_len : ∀ m es, (lenv m es).length = es.length
  | 0, es => lvals_len es
  | _ + 1, [] => rfl
  | m + 1, _ :: es => by simp [lenv, lenv_len m es]
theorem lenv_in : ∀ (m i : Nat) (es : List (Nat × Nd)), i < m → i < es.length → ((lenv m es)[i]?).join = none
  | 0, _, _, h, _ => by omega
  | _ + 1, _, [], _, h => by simp at h
  | m + 1, 0, _ :: es, _, _ => rfl
  | m + 1, i + 1, _ :: es, h, h2 => by
    have := lenv_in m i es (by omega) (by simp at h2; omega)
    simpa [lenv] using this
theorem lenv_out : ∀ (m : Nat) (p : List (Nat × Nd)) (b : Nat) (g : Nd) (t : List (Nat × Nd)), m ≤ p.length → ((lenv m (p ++ (b, g) :: t))[p.length]?).join = some (cpN (lvals t) g)
  | 0, [], b, g, t, _ => rfl
  | 0, (b', g') :: p, b, g, t, _ => by
    have := lenv_out 0 p b g t (by omega)
    simpa [lenv, lvals] using this
  | m + 1, [], b, g, t, h => by simp at h
  | m + 1, (b', g') :: p, b, g, t, h => by
    have := lenv_out m p b g t (by simp at h; omega)
    simpa [lenv] using this

/-- Every recursion of the environment is linked in its place. -/
def EnvL (w0 : World) : List (Nat × Nd) → Prop
  | [] => True
  | (b, g) :: es => g.k = 4 ∧ wN g (es.length : Int) 0 = true ∧
      (∃ ks, LkN w0 g.k g.fr g.ix g.kids (blks es) (.iface ( /- t -/ 108) (.pointer (some ⟨b, 0, none⟩))) ks) ∧ b ∉ blks es ∧ EnvL w0 es

theorem EnvL.suffix {w0 : World} : ∀ (p es : List (Nat × Nd)), EnvL w0 (p ++ es) → EnvL w0 es
  | [], _, h => h
  | (_, _) :: p, es, h => EnvL.suffix p es h.2.2.2.2
theorem EnvL.nodup {w0 : World} : ∀ (es : List (Nat × Nd)), EnvL w0 es → (blks es).Nodup
  | [], _ => List.nodup_nil
  | (b, g) :: es, h => by
    rw [blks_cons]
    exact nodup_snoc (EnvL.nodup es h.2.2.2.2) h.2.2.2.1
theorem EnvL.below {w0 w : World} (hb : Same w0 w (List.range w0.heap.size)) : ∀ (es : List (Nat × Nd)), EnvL w0 es → EnvL w es
  | [], _ => trivial
  | (b, g) :: es, h => by
    obtain ⟨h1, h2, ⟨ks, h3⟩, h4, h5⟩ := h
    exact ⟨h1, h2, ⟨ks, h3.same (fun x hx => hb x (List.mem_range.2 (h3.lt x hx)))⟩, h4, EnvL.below hb es h5⟩
theorem EnvL.blk {w0 : World} : ∀ (es : List (Nat × Nd)), EnvL w0 es → ∀ x, x ∈ blks es → ∃ cs, Blk w0 x cs
  | [], _, x, hx => by simp [blks] at hx
  | (b, g) :: es, h, x, hx => by
    obtain ⟨h1, h2, ⟨ks, h3⟩, h4, h5⟩ := h
    rw [blks_cons, List.mem_append] at hx
    rcases hx with hx | hx
    · exact EnvL.blk es h5 x hx
    · rw [List.mem_singleton.1 hx]
      rcases h3 with ⟨h3, -⟩ | ⟨h3, -⟩ | ⟨-, L, s, u, ks', h3, hb, -⟩ | ⟨h3, -⟩
      · omega
      · omega
      · injection h3 with _ h3
        injection h3 with h3
        injection h3 with h3
        injection h3 with h3
        subst h3
        exact ⟨_, hb⟩
      · omega

theorem empty_of {fr : ByteArray} (h : fr.toList = []) : fr = ⟨#[]⟩ := by
  rw [ByteArray.toList_eq] at h
  cases fr with
  | mk d =>
    have h2 : d = #[] := by simpa using h
    rw [h2]
theorem empty_size {fr : ByteArray} (h : fr.toList = []) : fr.size ≤ maxLen := by
  rw [empty_of h]
  exact Nat.zero_le _
theorem int_wf {x : Int} (h0 : 0 ≤ x) (h1 : x ≤ 1000000000) : (Lit.int .i64 x).wf = true := by
  have e1 : IntKind.i64.min = -9223372036854775808 := rfl
  have e2 : IntKind.i64.max = 9223372036854775807 := rfl
  simp only [Lit.wf, Bool.and_eq_true, decide_eq_true_eq]
  rw [e1, e2]
  omega

/-- A node that fits its place fits into values. -/
theorem fit_of_w {g : Nd} {b u : Int} (h : wN g b u = true) (hu : 0 ≤ u) (hb : b ≤ 1000000) : Fit g := by
  unfold wN at h
  simp only [Bool.and_eq_true] at h
  obtain ⟨h1, h2⟩ := h
  have h0 : (Lit.int .i64 0).wf = true := by decide
  by_cases k1 : g.k = 1
  · rw [k1] at h1
    obtain ⟨a, c, -⟩ := shape_end h1
    refine ⟨empty_size a, by rw [k1]; decide, by rw [c]; exact h0⟩
  by_cases k2 : g.k = 2 ∨ g.k = 3
  · obtain ⟨a, c, -⟩ := shape_act k2 h1
    refine ⟨by rw [role_size a]; decide, by rcases k2 with e | e <;> rw [e] <;> decide, by rw [c]; exact h0⟩
  by_cases k4 : g.k = 4
  · rw [k4] at h1
    obtain ⟨a, c, -⟩ := shape_rec h1
    refine ⟨empty_size a, by rw [k4]; decide, by rw [c]; exact h0⟩
  by_cases k5 : g.k = 5
  · rw [k5] at h1
    obtain ⟨a, -⟩ := shape_var h1
    rw [if_pos k5] at h2
    simp only [Bool.and_eq_true, decide_eq_true_eq] at h2
    refine ⟨empty_size a, by rw [k5]; decide, ?_⟩
    exact int_wf (by omega) (by omega)
  · simp [shapeB, k1, k2, k4, k5] at h1

theorem EnvL.fits {w0 : World} : ∀ (es : List (Nat × Nd)), EnvL w0 es → es.length ≤ 1000000 → ∀ U, some U ∈ lvals es → Fit U
  | [], _, _, U, hU => by simp [lvals] at hU
  | (b, g) :: es, h, hl, U, hU => by
    obtain ⟨h1, h2, -, -, h5⟩ := h
    have hl2 : es.length ≤ 1000000 := by simp at hl; omega
    simp only [lvals, List.mem_cons, Option.some.injEq] at hU
    rcases hU with rfl | hU
    · exact cpN_fit (EnvL.fits es h5 hl2) (fit_of_w h2 (by omega) (by omega))
    · exact EnvL.fits es h5 hl2 U hU
theorem EnvL.fitsM {w0 : World} : ∀ (m : Nat) (es : List (Nat × Nd)), EnvL w0 es → es.length ≤ 1000000 → ∀ U, some U ∈ lenv m es → Fit U
  | 0, es, h, hl, U, hU => EnvL.fits es h hl U hU
  | _ + 1, [], _, _, U, hU => by simp [lenv] at hU
  | m + 1, (b, g) :: es, h, hl, U, hU => by
    simp only [lenv, List.mem_cons, reduceCtorEq, false_or] at hU
    exact EnvL.fitsM m es h.2.2.2.2 (by simp at hl; omega) U hU

/-- A linked variable is linked to its recursion. -/
theorem linked_var {w0 : World} {fr : ByteArray} {ix : Int} {kids : F} {es : List (Nat × Nd)} {v : Value} {ks : List Nat} (h : LkN w0 5 fr ix kids (blks es) v ks) :
    ∃ p b g t, es = p ++ (b, g) :: t ∧ ix = (p.length : Nat) ∧ v = .iface ( /- t -/ 112) (.agg #[.pointer (some ⟨b, 0, none⟩)]) := by
  rcases h with ⟨h, -⟩ | ⟨-, ⟨l, h0, h1, h2, rfl⟩, -⟩ | ⟨h, -⟩ | ⟨h, -⟩
  · exact absurd h (by decide)
  · obtain ⟨i, rfl⟩ := Int.eq_ofNat_of_zero_le h0
    rw [blks_len] at h1 h2
    have hi : i < es.length := by omega
    simp only [Int.toNat_natCast] at h2
    have h3 : (es.map Prod.fst)[i]? = some l := by
      unfold blks at h2
      rw [List.getElem?_reverse (by simp; omega)] at h2
      simp only [List.length_map] at h2
      rwa [show es.length - 1 - (es.length - 1 - i) = i by omega] at h2
    rw [List.getElem?_map, List.getElem?_eq_getElem hi] at h3
    have h4 : es[i].1 = l := by simpa using h3
    refine ⟨es.take i, es[i].1, es[i].2, es.drop (i + 1), ?_, ?_, ?_⟩
    · rw [show (es[i].1, es[i].2) = es[i] from rfl]
      rw [List.getElem_cons_drop hi]
      exact (List.take_append_drop i es).symm
    · rw [List.length_take]; omega
    · rw [h4]
  · exact absurd h (by decide)
  · rcases h with h | h <;> exact absurd h (by decide)

theorem nodup_rev {l : List Nat} : l.reverse.Nodup ↔ l.Nodup := by
  unfold List.Nodup
  rw [List.pairwise_reverse]
  constructor
  · exact fun h => h.imp Ne.symm
  · exact fun h => h.imp Ne.symm

/-! ### The scope holds the innermost m of them -/
theorem scope_in (p : List (Nat × Nd)) (b : Nat) (g : Nd) (t : List (Nat × Nd)) (m : Nat) (h : p.length < m) (hm : m ≤ (p ++ (b, g) :: t).length) :
    (blks ((p ++ (b, g) :: t).take m))[m - 1 - p.length]? = some b ∧ (blks ((p ++ (b, g) :: t).take m)).length = (m - 1 - p.length) + 1 + p.length := by
  have hl : ((p ++ (b, g) :: t).take m).length = m := by rw [List.length_take]; omega
  refine ⟨?_, by rw [blks_len, hl]; omega⟩
  unfold blks
  rw [List.getElem?_reverse (by rw [List.length_map, hl]; omega), List.length_map, hl, show m - 1 - (m - 1 - p.length) = p.length by omega, List.getElem?_map, List.getElem?_take_of_lt h, List.getElem?_append_right (Nat.le_refl _)]
  simp
theorem scope_out {w0 : World} (p : List (Nat × Nd)) (b : Nat) (g : Nd) (t : List (Nat × Nd)) (m : Nat) (h : m ≤ p.length) (he : EnvL w0 (p ++ (b, g) :: t)) : b ∉ blks ((p ++ (b, g) :: t).take m) := by
  intro hb
  have hnd := he.nodup
  rw [List.take_append_of_le_length h] at hb
  have hb2 : b ∈ p.map Prod.fst := by
    simp only [blks, List.mem_reverse, List.mem_map] at hb ⊢
    obtain ⟨x, hx, rfl⟩ := hb
    exact ⟨x, List.mem_of_mem_take hx, rfl⟩
  unfold blks at hnd
  rw [nodup_rev, List.map_append, List.nodup_append] at hnd
  exact hnd.2.2 b hb2 b (by simp) rfl
theorem scope_nodup {w0 : World} (es : List (Nat × Nd)) (m : Nat) (he : EnvL w0 es) : (blks (es.take m)).Nodup := by
  have := he.nodup
  unfold blks at this ⊢
  rw [nodup_rev] at this ⊢
  rw [List.map_take]
  exact this.sublist (List.take_sublist _ _)
theorem scope_mem {es : List (Nat × Nd)} {m x : Nat} (h : x ∈ blks (es.take m)) : x ∈ blks es := by
  simp only [blks, List.mem_reverse, List.mem_map] at h ⊢
  obtain ⟨y, hy, rfl⟩ := h
  exact ⟨y, List.mem_of_mem_take hy, rfl⟩
theorem scope_len (es : List (Nat × Nd)) (m : Nat) (h : m ≤ es.length) : (blks (es.take m)).length = m := by
  rw [blks_len, List.length_take]; omega
end Go.Proofs.YtgcefippeokmcabGreatDoor.Lo

/- unlinkNode of the program: what it owes, and the values of the written tree. -/
namespace Go.Proofs.YtgcefippeokmcabGreatDoor.Lo
open Go.RowKit

theorem Box4.only {w w' : World} {b c : Nat} {v0 v1 v2 v3 : Value} (h : Box4 w b v0 v1 v2 v3) (ho : Only c w w') (hb : b ≠ c) : Box4 w' b v0 v1 v2 v3 := h.same (ho.block _ h.lt hb)
theorem Gr.only {w w' : World} {base c : Nat} {v : Value} {f : F} {bs : List Nat} (h : Gr w base v f bs) (ho : Only c w w') (hc : c < base) : Gr w' base v f bs :=
  h.same (fun b hb => ho.block b (h.lt b hb) (by have := h.ge b hb; omega))
theorem Pt.only {w w' : World} {c : Nat} {a : Int} (hc : Ctr w c a) (ho : Only c w w') {v : Value} {ps : List Nat} (h : Pt w v ps) : Pt w' v ps := by
  rcases h with h | ⟨b, cap, cs, h1, h2, h3, h4, h5, h6⟩
  · exact Or.inl h
  · refine Or.inr ⟨b, cap, cs, h1, h2, h3, h4, ?_, h6⟩
    have hne : b ≠ c := by
      rintro rfl
      obtain ⟨t, hh⟩ := hc
      rw [h5] at hh
      injection hh with hh
      injection hh with hh
      cases ps with
      | nil => exact absurd rfl h1
      | cons l ps =>
        have := h6 0 l rfl
        rw [hh] at this
        simp at this
    rw [ho.block b (Array.getElem?_eq_some_iff.1 h5).1 hne]
    exact h5

/-- What unlinkNode owes: the tree in new memory and its nodes counted, if it keeps the limits; else nothing. -/
def CpPost (c : Nat) (N : Nd) (d : Int) (a : Nat) (w : World) (e : Ending) (w' : World) : Prop :=
  ∃ a' : Nat, Only c w w' ∧ Ctr w' c a' ∧
    ((a + (N.kids.sz + 1) ≤ 400 ∧ d + (hF N.kids : Int) ≤ 40 ∧ a' = a + (N.kids.sz + 1) ∧ ∃ u bs, e = .returned (.tuple #[.agg #[.int .i64 N.k, .string N.fr, .int .i64 N.ix, u], .bool true]) ∧ Ow w' u N.kids bs ∧ (∀ b, b ∈ bs → w.heap.size ≤ b) ∧ bs.Nodup) ∨
     (¬ (a + (N.kids.sz + 1) ≤ 400 ∧ d + (hF N.kids : Int) ≤ 40) ∧ e = .returned (.tuple #[.agg #[.int .i64 0, .string ⟨#[]⟩, .int .i64 0, .slice none 0 0], .bool false])))

theorem CpPost.no {c : Nat} {N : Nd} {d : Int} {a a' : Nat} {w w' : World} (ho : Only c w w') (hc : Ctr w' c a') (h : ¬ (a + (N.kids.sz + 1) ≤ 400 ∧ d + (hF N.kids : Int) ≤ 40)) :
    CpPost c N d a w (.returned (.tuple #[.agg #[.int .i64 0, .string ⟨#[]⟩, .int .i64 0, .slice none 0 0], .bool false])) w' := ⟨a', ho, hc, Or.inr ⟨h, rfl⟩⟩
theorem CpPost.yes {c : Nat} {N : Nd} {d : Int} {a a' : Nat} {w w' : World} {u : Value} {bs : List Nat} (ho : Only c w w') (hc : Ctr w' c a') (h1 : a + (N.kids.sz + 1) ≤ 400) (h2 : d + (hF N.kids : Int) ≤ 40) (h3 : a' = a + (N.kids.sz + 1))
    (how : Ow w' u N.kids bs) (hge : ∀ b, b ∈ bs → w.heap.size ≤ b) (hnd : bs.Nodup) {k ix : Int} {fr : ByteArray} (hk : k = N.k) (hf : fr = N.fr) (hi : ix = N.ix) :
    CpPost c N d a w (.returned (.tuple #[.agg #[.int .i64 k, .string fr, .int .i64 ix, u], .bool true])) w' :=
  ⟨a', ho, hc, Or.inl ⟨h1, h2, h3, u, bs, by rw [hk, hf, hi], how, hge, hnd⟩⟩
/-- The same from a later world on. -/
theorem CpPost.later {c : Nat} {N : Nd} {d : Int} {a : Nat} {w0 w : World} {e : Ending} {w' : World} (h : CpPost c N d a w e w') (hb : Only c w0 w) : CpPost c N d a w0 e w' := by
  obtain ⟨a', ho, hc, h⟩ := h
  refine ⟨a', hb.trans ho, hc, ?_⟩
  rcases h with ⟨h1, h2, h3, u, bs, h4, h5, h6, h7⟩ | h
  · exact Or.inl ⟨h1, h2, h3, u, bs, h4, h5, fun b hm => Nat.le_trans hb.size (h6 b hm), h7⟩
  · exact Or.inr h

def UnAt (q n : Nat) : Prop := ∀ (w0 w : World) (c a : Nat) (dp un k ix : Int) (fr : ByteArray) (v lv : Value) (kids : F) (es : List (Nat × Nd)) (m : Nat) (ks : List Nat), kids.sz < n → es.length = q + m →
  LkN w0 k fr ix kids (blks es) v ks → EnvL w0 es → wN ⟨k, fr, ix, kids⟩ (es.length : Int) 0 = true → Below w0.heap.size w0 w → w0.heap.size ≤ c → Ctr w c a → a ≤ 400 → 1 ≤ dp → dp ≤ 41 → (m : Int) + 1 ≤ dp → 0 ≤ un → un + 1 ≤ dp → q ≤ 1000 →
  Pt w lv (blks (es.take m)) →
  Calls Tryz.prog 64 #[v, .agg #[.int .i64 dp, lv, .int .i64 un], .pointer (some ⟨c, 0, none⟩)] w (CpPost c (cpN (lenv m es) ⟨k, fr, ix, kids⟩) dp a w)

/-! ### The values -/
/-- A branch in its place. -/
theorem kid_act {k ix : Int} {fr : ByteArray} {kids : F} {b : Int} (hw : wN ⟨k, fr, ix, kids⟩ b 0 = true) (hk : k = 2 ∨ k = 3) {p rest : F} {lab : ByteArray} {kd ix' : Int} {fr' : ByteArray} {kids' : F}
    (he : kids = p.app (.cons lab kd fr' ix' kids' rest)) : wN ⟨kd, fr', ix', kids'⟩ b 0 = true := by
  unfold wN at hw
  simp only [Bool.and_eq_true] at hw
  obtain ⟨h1, h2⟩ := hw
  rw [if_neg (by omega), if_neg (by omega), if_pos hk, he, wF_app] at h2
  simp only [wF, Bool.and_eq_true] at h2
  unfold wN
  simp only [Bool.and_eq_true]
  exact h2.2.1
/-- A label of an action is one letter. -/
theorem lab_act {k ix : Int} {fr : ByteArray} {kids : F} {b : Int} (hw : wN ⟨k, fr, ix, kids⟩ b 0 = true) (hk : k = 2 ∨ k = 3) {p rest : F} {lab : ByteArray} {kd ix' : Int} {fr' : ByteArray} {kids' : F}
    (he : kids = p.app (.cons lab kd fr' ix' kids' rest)) : lab.size = 1 := by
  unfold wN at hw
  simp only [Bool.and_eq_true] at hw
  obtain ⟨-, -, h3⟩ := shape_act hk hw.1
  have key : ∀ (p : F) (q : Option ByteArray), ascB q (p.app (.cons lab kd fr' ix' kids' rest)) = true → labB lab = true := by
    intro p
    induction p with
    | nil =>
      intro q h
      simp only [F.app, ascB, Bool.and_eq_true] at h
      exact h.1.1
    | cons l k2 f2 i2 c2 r2 _ ih =>
      intro q h
      simp only [F.app, ascB, Bool.and_eq_true] at h
      exact ih _ h.2
  have h4 : ascB none kids = true := by
    have := h3
    unfold branchesB at this
    simp only [Bool.and_eq_true] at this
    exact this.1
  rw [he] at h4
  exact lab_size (key p none h4)

end Go.Proofs.YtgcefippeokmcabGreatDoor.Lo

/- unlinkNode of the program: an end, a variable whose recursion is around. -/
namespace Go.Proofs.YtgcefippeokmcabGreatDoor.Lo
open Go.RowKit

/-- What stands in memory while a node is written out. -/
structure UnSt (w wd : World) (c a : Nat) (dp un : Int) (sv : Value) : Prop where
  hs : Blk wd w.heap.size #[.int .i64 dp, sv, .int .i64 un]
  hz : Box4 wd (w.heap.size + 1) (.int .i64 0) (.string ⟨#[]⟩) (.int .i64 0) (.slice none 0 0)
  hc : Ctr wd c a
  ho : Only c w wd

theorem UnSt.below {w wd we : World} {c a : Nat} {dp un : Int} {sv : Value} (h : UnSt w wd c a dp un sv) (hb : Below wd.heap.size wd we) : UnSt w we c a dp un sv :=
  ⟨h.hs.below hb, h.hz.below hb, h.hc.below hb, h.ho.below hb⟩
theorem UnSt.only {w wd we : World} {c a a' : Nat} {dp un : Int} {sv : Value} (h : UnSt w wd c a dp un sv) (hc : c < w.heap.size) (ho : Only c wd we) (hc' : Ctr we c a') : UnSt w we c a' dp un sv :=
  ⟨h.hs.only ho (by omega), h.hz.only ho (by omega), hc', h.ho.trans ho⟩
theorem UnSt.count {w wd : World} {c a : Nat} {dp un : Int} {sv : Value} (h : UnSt w wd c a dp un sv) (hc : c < w.heap.size) : UnSt w (wd.setCell ⟨c, 0, none⟩ (.int .i64 ((a : Int) + 1))) c (a + 1) dp un sv := by
  refine h.only hc ((Only.refl c wd).setCell (Or.inl rfl) _) ?_
  have := h.hc.set ((a : Int) + 1)
  rwa [show ((a + 1 : Nat) : Int) = (a : Int) + 1 by omega]
/-- The boxes at the start. -/
theorem UnSt.start {w : World} {c a : Nat} (hc : Ctr w c a) (dp un : Int) (sv : Value) (t1 t2 : TypeId) :
    UnSt w ((w.alloc (.cells #[.int .i64 dp, sv, .int .i64 un] t1)).alloc (.cells #[.int .i64 0, .string ⟨#[]⟩, .int .i64 0, .slice none 0 0] t2)) c a dp un sv := by
  have hA := alloc_below w (.cells #[.int .i64 dp, sv, .int .i64 un] t1)
  have hB := hA.alloc (by simp) (.cells #[.int .i64 0, .string ⟨#[]⟩, .int .i64 0, .slice none 0 0] t2)
  have h1 := Blk.now w #[.int .i64 dp, sv, .int .i64 un] t1
  have h2 := Box4.now (w.alloc (.cells #[.int .i64 dp, sv, .int .i64 un] t1)) (.int .i64 0) (.string ⟨#[]⟩) (.int .i64 0) (.slice none 0 0) t2
  rw [show (w.alloc (.cells #[.int .i64 dp, sv, .int .i64 un] t1)).heap.size = w.heap.size + 1 from by simp] at h2
  exact ⟨h1.below (alloc_below _ _), h2, hc.below hB, (Only.refl c w).below hB⟩

theorem ctr_setAll {w : World} {c b0 : Nat} {a' : Int} (hc : Ctr w c a') (hcb : c ≠ b0) (v0 v1 v2 v3 : Value) :
    Ctr ((((w.setCell ⟨b0, 0, none⟩ v0).setCell ⟨b0, 1, none⟩ v1).setCell ⟨b0, 2, none⟩ v2).setCell ⟨b0, 3, none⟩ v3) c a' :=
  (((hc.setOther hcb _).setOther hcb _).setOther hcb _).setOther hcb _
theorem only_setAll {c : Nat} {a b : World} (h : Only c a b) {b0 : Nat} (hb : a.heap.size ≤ b0) (v0 v1 v2 v3 : Value) :
    Only c a ((((b.setCell ⟨b0, 0, none⟩ v0).setCell ⟨b0, 1, none⟩ v1).setCell ⟨b0, 2, none⟩ v2).setCell ⟨b0, 3, none⟩ v3) :=
  (((h.setCell (Or.inr hb) _).setCell (Or.inr hb) _).setCell (Or.inr hb) _).setCell (Or.inr hb) _
theorem same_setAll {w : World} {bs : List Nat} {b0 : Nat} (q : ∀ b, b ∈ bs → b ≠ b0) (v0 v1 v2 v3 : Value) :
    Same w ((((w.setCell ⟨b0, 0, none⟩ v0).setCell ⟨b0, 1, none⟩ v1).setCell ⟨b0, 2, none⟩ v2).setCell ⟨b0, 3, none⟩ v3) bs :=
  ((((Same.refl _ _).setCell q _).setCell q _).setCell q _).setCell q _

/-- A failure, told by the result's box. -/
theorem UnSt.no {w wd : World} {c a a' : Nat} {dp un : Int} {sv : Value} {N : Nd} {d : Int} (h : UnSt w wd c a' dp un sv) (hcl : c < w.heap.size) (hno : ¬ (a + (N.kids.sz + 1) ≤ 400 ∧ d + (hF N.kids : Int) ≤ 40)) (v0 v1 v2 v3 : Value) :
    CpPost c N d a w (.returned (.tuple #[.agg #[.int .i64 0, .string ⟨#[]⟩, .int .i64 0, .slice none 0 0], .bool false]))
      ((((wd.setCell ⟨w.heap.size + 1, 0, none⟩ v0).setCell ⟨w.heap.size + 1, 1, none⟩ v1).setCell ⟨w.heap.size + 1, 2, none⟩ v2).setCell ⟨w.heap.size + 1, 3, none⟩ v3) :=
  CpPost.no (only_setAll h.ho (by omega) _ _ _ _) (ctr_setAll h.hc (by omega) _ _ _ _) hno
/-- A leaf. -/
theorem UnSt.leaf {w wd : World} {c a : Nat} {dp un : Int} {sv : Value} {k ix : Int} {fr : ByteArray} {d : Int} (h : UnSt w wd c (a + 1) dp un sv) (hcl : c < w.heap.size) (h1 : a + 1 ≤ 400) (h2 : d ≤ 40) (v0 v1 v2 v3 : Value) :
    CpPost c ⟨k, fr, ix, .nil⟩ d a w (.returned (.tuple #[.agg #[.int .i64 k, .string fr, .int .i64 ix, .slice none 0 0], .bool true]))
      ((((wd.setCell ⟨w.heap.size + 1, 0, none⟩ v0).setCell ⟨w.heap.size + 1, 1, none⟩ v1).setCell ⟨w.heap.size + 1, 2, none⟩ v2).setCell ⟨w.heap.size + 1, 3, none⟩ v3) :=
  CpPost.yes (bs := []) (a' := a + 1) (only_setAll h.ho (by omega) _ _ _ _) (ctr_setAll h.hc (by omega) _ _ _ _) (by simpa [F.sz] using h1) (by simpa [hF] using h2) (by simp [F.sz]) ⟨none, 0, rfl, Nat.le_refl _, Nat.zero_le _, Or.inl ⟨rfl, rfl⟩⟩ (fun _ hb => absurd hb List.not_mem_nil) List.nodup_nil rfl rfl rfl

set_option maxHeartbeats 1000000 in
set_option maxRecDepth 100000 in
theorem un_end (w : World) (c a : Nat) (dp un : Int) (lv : Value) (ps : List Nat) (hc : Ctr w c a) (ha : a ≤ 400) (hd1 : 1 ≤ dp) (hd2 : dp ≤ 41) (hp : Pt w lv ps) :
    Calls Tryz.prog 64 #[.iface ( /- t -/ 120) (.agg #[]), .agg #[.int .i64 dp, lv, .int .i64 un], .pointer (some ⟨c, 0, none⟩)] w (CpPost c ⟨1, ⟨#[]⟩, 0, .nil⟩ dp a w) := by
  obtain ⟨la, lcap, rfl, -, -⟩ := hp.ps.val
  have HST := hide ((UnSt.start hc dp un (.slice la ps.length lcap) ( /- t -/ 104) ( /- t -/ 33)).below (alloc_below _ (.cells #[.pointer none] ( /- t -/ 112))))
  have hcl := hc.lt
  clear hp hc
  have n1 := taEndVar
  have n2 := taEndLoop
  have n3 := taEndAct
  go_enter Tryz.func64, Tryz.ntmps64
  go_upto_region 4 with fail
  generalize ((w.alloc (.cells #[.int .i64 dp, .slice la ps.length lcap, .int .i64 un] ( /- t -/ 104))).alloc (.cells #[.int .i64 0, .string ⟨#[]⟩, .int .i64 0, .slice none 0 0] ( /- t -/ 33))).alloc (.cells #[.pointer none] ( /- t -/ 112)) = W at *
  have cc := HST.out.hc.cell
  have cf := HST.out.hc.frozen
  have cl := HST.out.hc.lt
  have s0 : W.cell? ⟨w.heap.size, 0, none⟩ = some (.int .i64 dp) := HST.out.hs.cell 0
  have sl := HST.out.hs.lt
  obtain ⟨z0, z1, z2, z3⟩ := HST.out.hz.cells
  have fz := HST.out.hz.frozen
  have hzl := HST.out.hz.lt
  by_cases hm4 : 400 ≤ a
  · go_wp2_with fail
    refine bodyPost_ret (v := .tuple #[.agg #[.int .i64 0, .string ⟨#[]⟩, .int .i64 0, .slice none 0 0], .bool false]) (by simp [results, Tryz.results64, go_sem, *]) rfl ?_
    exact UnSt.no (HST.out.count hcl) hcl (fun h => by have := h.1; omega) _ _ _ _
  by_cases hd4 : 40 < dp
  · go_wp2_with fail
    refine bodyPost_ret (v := .tuple #[.agg #[.int .i64 0, .string ⟨#[]⟩, .int .i64 0, .slice none 0 0], .bool false]) (by simp [results, Tryz.results64, go_sem, *]) rfl ?_
    exact UnSt.no (HST.out.count hcl) hcl (fun h => by have := h.2; omega) _ _ _ _
  · go_wp2_with fail
    refine bodyPost_ret (v := .tuple #[.agg #[.int .i64 1, .string ⟨#[]⟩, .int .i64 0, .slice none 0 0], .bool true]) (by simp [results, Tryz.results64, go_sem, *]) rfl ?_
    exact UnSt.leaf (HST.out.count hcl) hcl (by omega) (by omega) _ _ _ _

set_option maxHeartbeats 1000000 in
set_option maxRecDepth 100000 in
/-- A variable whose recursion is around. -/
theorem un_var (w0 w : World) (c a : Nat) (dp un : Int) (i j l : Nat) (lv : Value) (ps : List Nat) (hB : Below w0.heap.size w0 w) (hc0 : w0.heap.size ≤ c) (hc : Ctr w c a) (ha : a ≤ 400) (hd1 : 1 ≤ dp) (hd2 : dp ≤ 41) (hp : Pt w lv ps)
    (hnd : ps.Nodup) (hpb : ∀ x, x ∈ ps → ∃ cs, Blk w0 x cs) (hl : ps[j]? = some l) (hj : ps.length = j + 1 + i) (hlen : ps.length ≤ 41) :
    Calls Tryz.prog 64 #[.iface ( /- t -/ 112) (.agg #[.pointer (some ⟨l, 0, none⟩)]), .agg #[.int .i64 dp, lv, .int .i64 un], .pointer (some ⟨c, 0, none⟩)] w (CpPost c ⟨5, ⟨#[]⟩, (i : Int), .nil⟩ dp a w) := by
  obtain ⟨la, lcap, rfl, -, -⟩ := hp.ps.val
  have hb3 := ((alloc_below w (.cells #[.int .i64 dp, .slice la ps.length lcap, .int .i64 un] ( /- t -/ 104))).alloc (by simp) (.cells #[.int .i64 0, .string ⟨#[]⟩, .int .i64 0, .slice none 0 0] ( /- t -/ 33))).alloc (by simp; omega) (.cells #[.pointer (some ⟨l, 0, none⟩)] ( /- t -/ 112))
  have HST := hide ((UnSt.start hc dp un (.slice la ps.length lcap) ( /- t -/ 104) ( /- t -/ 33)).below (alloc_below _ (.cells #[.pointer (some ⟨l, 0, none⟩)] ( /- t -/ 112))))
  have hvb := alloc_last ((w.alloc (.cells #[.int .i64 dp, .slice la ps.length lcap, .int .i64 un] ( /- t -/ 104))).alloc (.cells #[.int .i64 0, .string ⟨#[]⟩, .int .i64 0, .slice none 0 0] ( /- t -/ 33))) #[.pointer (some ⟨l, 0, none⟩)] ( /- t -/ 112)
  have hcl := hc.lt
  have HP3 := hide (hp.below hb3)
  have HB3 := hide (hB.trans (hb3.mono hB.size))
  have HW := hide hB
  have HND := hide hnd
  have HPB := hide hpb
  have HL := hide hl
  have HJ := hide hj
  have HVB := hide hvb
  have hi0 : ¬ ((i : Int) < 0) := by omega
  clear hp hc hB hnd hpb hl hj hb3 hvb
  have n1 := taVarVar
  go_enter Tryz.func64, Tryz.ntmps64
  go_wp2_with fail
  generalize ((w.alloc (.cells #[.int .i64 dp, .slice la ps.length lcap, .int .i64 un] ( /- t -/ 104))).alloc (.cells #[.int .i64 0, .string ⟨#[]⟩, .int .i64 0, .slice none 0 0] ( /- t -/ 33))).alloc (.cells #[.pointer (some ⟨l, 0, none⟩)] ( /- t -/ 112)) = W at *
  refine (idx_calls W dp un _ ps l i j HP3.out.ps HND.out HL.out HJ.out hlen (fun x hx => by obtain ⟨cs, h⟩ := HPB.out x hx; exact ⟨cs, h.below HB3.out⟩)).mono ?_
  rintro e w1 ⟨rfl, hb⟩
  have HST1 := hide (HST.out.below hb)
  have HP1 := hide (HP3.out.below hb)
  have HB1 := hide (HB3.out.trans (hb.mono HB3.out.size))
  clear hb HST HP3 HB3 HVB
  have cc := HST1.out.hc.cell
  have cf := HST1.out.hc.frozen
  have cl := HST1.out.hc.lt
  have s0 : w1.cell? ⟨w.heap.size, 0, none⟩ = some (.int .i64 dp) := HST1.out.hs.cell 0
  have s1 : w1.cell? ⟨w.heap.size, 1, none⟩ = some (.slice la ps.length lcap) := HST1.out.hs.cell 1
  have s2 : w1.cell? ⟨w.heap.size, 2, none⟩ = some (.int .i64 un) := HST1.out.hs.cell 2
  have sl := HST1.out.hs.lt
  obtain ⟨z0, z1, z2, z3⟩ := HST1.out.hz.cells
  have fz := HST1.out.hz.frozen
  have hzl := HST1.out.hz.lt
  by_cases hm4 : 400 ≤ a
  · go_wp2_with fail
    refine bodyPost_ret (v := .tuple #[.agg #[.int .i64 0, .string ⟨#[]⟩, .int .i64 0, .slice none 0 0], .bool false]) (by simp [results, Tryz.results64, go_sem, *]) rfl ?_
    exact UnSt.no (HST1.out.count hcl) hcl (fun h => by have := h.1; omega) _ _ _ _
  by_cases hd4 : 40 < dp
  · go_wp2_with fail
    refine bodyPost_ret (v := .tuple #[.agg #[.int .i64 0, .string ⟨#[]⟩, .int .i64 0, .slice none 0 0], .bool false]) (by simp [results, Tryz.results64, go_sem, *]) rfl ?_
    exact UnSt.no (HST1.out.count hcl) hcl (fun h => by have := h.2; omega) _ _ _ _
  · go_wp2_with fail
    have hst2 := HST1.out.count hcl
    have hp2 := HP1.out.only HST1.out.hc ((Only.refl c w1).setCell (p := ⟨c, 0, none⟩) (Or.inl rfl) (.int .i64 ((a : Int) + 1)))
    have hb2 := HB1.out.setCell (p := ⟨c, 0, none⟩) hc0 (.int .i64 ((a : Int) + 1))
    generalize w1.setCell ⟨c, 0, none⟩ (.int .i64 ((a : Int) + 1)) = W2 at *
    have hbA := alloc_below W2 (.cells #[.pointer (some ⟨l, 0, none⟩)] ( /- t -/ 112))
    have HST2 := hide (hst2.below hbA)
    have HP2 := hide (hp2.below hbA)
    have HB2 := hide (hb2.trans (hbA.mono hb2.size))
    clear hst2 hp2 hb2 hbA cc cf cl s0 s1 s2 sl z0 z1 z2 z3 fz hzl HST1 HP1 HB1
    refine (idx_calls _ dp un _ ps l i j HP2.out.ps HND.out HL.out HJ.out hlen (fun x hx => by obtain ⟨cs, h⟩ := HPB.out x hx; exact ⟨cs, h.below HB2.out⟩)).mono ?_
    rintro e w3 ⟨rfl, hb⟩
    have HST3 := hide (HST2.out.below hb)
    clear hb HST2 HP2 HB2
    obtain ⟨z0, z1, z2, z3⟩ := HST3.out.hz.cells
    have fz := HST3.out.hz.frozen
    have hzl := HST3.out.hz.lt
    go_wp2_with fail
    refine bodyPost_ret (v := .tuple #[.agg #[.int .i64 5, .string ⟨#[]⟩, .int .i64 i, .slice none 0 0], .bool true]) (by simp [results, Tryz.results64, go_sem, *]) rfl ?_
    exact UnSt.leaf HST3.out hcl (by omega) (by omega) _ _ _ _

end Go.Proofs.YtgcefippeokmcabGreatDoor.Lo

/- unlinkNode of the program: what stands in memory around a child's writing. -/
namespace Go.Proofs.YtgcefippeokmcabGreatDoor.Lo
open Go.RowKit

/-- What unlinkNode gives, in one form. -/
theorem CpPost.form {c : Nat} {N : Nd} {d : Int} {a : Nat} {w : World} {e : Ending} {w' : World} (h : CpPost c N d a w e w') :
    ∃ (k ix : Int) (fr : ByteArray) (ua : Option Addr) (ul uc : Nat) (ok : Bool) (a' : Nat), e = .returned (.tuple #[.agg #[.int .i64 k, .string fr, .int .i64 ix, .slice ua ul uc], .bool ok]) ∧ Only c w w' ∧ Ctr w' c a' ∧
      ((ok = true ∧ k = N.k ∧ fr = N.fr ∧ ix = N.ix ∧ a + (N.kids.sz + 1) ≤ 400 ∧ d + (hF N.kids : Int) ≤ 40 ∧ a' = a + (N.kids.sz + 1) ∧ ∃ bs, Ow w' (.slice ua ul uc) N.kids bs ∧ (∀ b, b ∈ bs → w.heap.size ≤ b) ∧ bs.Nodup) ∨
       (ok = false ∧ ¬ (a + (N.kids.sz + 1) ≤ 400 ∧ d + (hF N.kids : Int) ≤ 40))) := by
  obtain ⟨a', ho, hc, h⟩ := h
  rcases h with ⟨h1, h2, h3, u, bs, rfl, how, hge, hnd⟩ | ⟨h, rfl⟩
  · obtain ⟨ua, uc, rfl⟩ := how.val
    exact ⟨_, _, _, ua, _, uc, true, a', rfl, ho, hc, Or.inl ⟨rfl, rfl, rfl, rfl, h1, h2, h3, bs, how, hge, hnd⟩⟩
  · exact ⟨_, _, _, none, 0, 0, false, a', rfl, ho, hc, Or.inr ⟨rfl, h⟩⟩

theorem loop_blk {w0 : World} {fr : ByteArray} {ix : Int} {kids : F} {ps ks : List Nat} {L : Nat} (h : LkN w0 4 fr ix kids ps (.iface ( /- t -/ 108) (.pointer (some ⟨L, 0, none⟩))) ks) : ∃ cs, Blk w0 L cs := by
  rcases h with ⟨h, -⟩ | ⟨h, -⟩ | ⟨-, L', s, u, ks', h3, hb, -⟩ | ⟨h, -⟩
  · omega
  · omega
  · injection h3 with _ h3
    injection h3 with h3
    injection h3 with h3
    injection h3 with h3
    subst h3
    exact ⟨_, hb⟩
  · omega

/-- The scope is another one. -/
theorem UnSt.jump {w wd : World} {c a : Nat} {dp un : Int} {sv : Value} (h : UnSt w wd c a dp un sv) (hcl : c < w.heap.size) (un' : Int) (sv' : Value) :
    UnSt w (((wd.setCell ⟨w.heap.size, 0, none⟩ (.int .i64 dp)).setCell ⟨w.heap.size, 1, none⟩ sv').setCell ⟨w.heap.size, 2, none⟩ (.int .i64 un')).drew c a dp un' sv' := by
  have h1 : Blk (((wd.setCell ⟨w.heap.size, 0, none⟩ (.int .i64 dp)).setCell ⟨w.heap.size, 1, none⟩ sv').setCell ⟨w.heap.size, 2, none⟩ (.int .i64 un')) w.heap.size #[.int .i64 dp, sv', .int .i64 un'] := ((h.hs.set 0 _).set 1 _).set 2 _
  have hne : c ≠ w.heap.size := by omega
  exact ⟨h1, ((h.hz.setOther (by simp) _).setOther (by simp) _).setOther (by simp) _, ((h.hc.setOther hne _).setOther hne _).setOther hne _,
    (((h.ho.setCell (Or.inr (Nat.le_refl _)) _).setCell (Or.inr (Nat.le_refl _)) _).setCell (Or.inr (Nat.le_refl _)) _).drew⟩

/-- What a child's writing leaves: its box, its flag. -/
def KidRel (w w4 : World) (c a : Nat) (dp un : Int) (sv : Value) (N : Nd) (d : Int) (xv okv : Value) : Prop :=
  ∃ (X : Nat) (k ix : Int) (fr : ByteArray) (ua : Option Addr) (ul uc : Nat) (ok : Bool) (a' : Nat), xv = .pointer (some ⟨X, 0, none⟩) ∧ okv = .bool ok ∧ Box4 w4 X (.int .i64 k) (.string fr) (.int .i64 ix) (.slice ua ul uc) ∧ w.heap.size + 1 < X ∧ UnSt w w4 c a' dp un sv ∧
    ((ok = true ∧ k = N.k ∧ fr = N.fr ∧ ix = N.ix ∧ a + (N.kids.sz + 1) ≤ 400 ∧ d + (hF N.kids : Int) ≤ 40 ∧ a' = a + (N.kids.sz + 1) ∧ ∃ bs, Ow w4 (.slice ua ul uc) N.kids bs ∧ (∀ b, b ∈ bs → w.heap.size + 1 < b) ∧ bs.Nodup) ∨
     (ok = false ∧ ¬ (a + (N.kids.sz + 1) ≤ 400 ∧ d + (hF N.kids : Int) ≤ 40)))

theorem KidRel.mk {w0 w W3 wY w6 w4 : World} {c a1 a' X : Nat} {dp un : Int} {sv : Value} {N : Nd} {d : Int} (hst : UnSt w W3 c a1 dp un sv) (hcl : c < w.heap.size) (h0 : Below w0.heap.size w0 W3) (hc0 : w0.heap.size ≤ c) (h35 : Below W3.heap.size W3 wY) (ho6 : Only c wY w6) (hc6 : Ctr w6 c a')
    (hX : W3.heap.size ≤ X) (h64 : Only X w6 w4) {k ix : Int} {fr : ByteArray} {ua : Option Addr} {ul uc : Nat} {ok : Bool} (hbox : Box4 w4 X (.int .i64 k) (.string fr) (.int .i64 ix) (.slice ua ul uc)) (hXb : X < wY.heap.size ∨ w6.heap.size ≤ X)
    (hcase : (ok = true ∧ k = N.k ∧ fr = N.fr ∧ ix = N.ix ∧ a1 + (N.kids.sz + 1) ≤ 400 ∧ d + (hF N.kids : Int) ≤ 40 ∧ a' = a1 + (N.kids.sz + 1) ∧ ∃ bs, Ow w6 (.slice ua ul uc) N.kids bs ∧ (∀ b, b ∈ bs → wY.heap.size ≤ b) ∧ bs.Nodup) ∨
       (ok = false ∧ ¬ (a1 + (N.kids.sz + 1) ≤ 400 ∧ d + (hF N.kids : Int) ≤ 40))) : KidRel w w4 c a1 dp un sv N d (.pointer (some ⟨X, 0, none⟩)) (.bool ok) ∧ Below w0.heap.size w0 w4 := by
  have h1 := hst.hz.lt
  have h2 := h35.size
  have h3 := hst.below h35
  have h4 := h3.only hcl ho6 hc6
  have hne : ∀ b, b < W3.heap.size → b ≠ X := fun b hb e => by omega
  have hz4 := h4.hz.lt
  have h5 : UnSt w w4 c a' dp un sv := by
    refine ⟨h4.hs.same (h64.block _ (by omega) (hne _ (by omega))), h4.hz.same (h64.block _ (by omega) (hne _ (by omega))), h4.hc.same (h64.block _ h4.hc.lt (hne _ (by omega))), ?_⟩
    refine ⟨h64.os.trans h4.ho.os, h64.tape.trans h4.ho.tape, h64.output.trans h4.ho.output, Nat.le_trans h4.ho.size h64.size, fun b hb hc => ?_⟩
    exact (h64.block b (Nat.lt_of_lt_of_le hb h4.ho.size) (hne b (by omega))).trans (h4.ho.block b hb hc)
  have h6 := h0.size
  have h7 := ho6.size
  refine ⟨⟨X, k, ix, fr, ua, ul, uc, ok, a', rfl, rfl, hbox, by omega, h5, ?_⟩, ((h0.trans (h35.mono h6)).trans (ho6.to_below hc0 (by omega))).trans (h64.to_below (by omega) (by omega))⟩
  rcases hcase with ⟨q1, q2, q3, q4, q5, q6, q7, bs, how, hge, hnd⟩ | h
  · refine Or.inl ⟨q1, q2, q3, q4, q5, q6, q7, bs, how.same (fun b hb => h64.block b (how.lt b hb) ?_), fun b hb => by have := hge b hb; omega, hnd⟩
    have := hge b hb
    have := how.lt b hb
    omega
  · exact Or.inr h

theorem only_box (X : Nat) (w : World) (v0 v1 v2 v3 : Value) : Only X w ((((w.setCell ⟨X, 0, none⟩ v0).setCell ⟨X, 1, none⟩ v1).setCell ⟨X, 2, none⟩ v2).setCell ⟨X, 3, none⟩ v3) :=
  ((((Only.refl X w).setCell (p := ⟨X, 0, none⟩) (Or.inl rfl) v0).setCell (p := ⟨X, 1, none⟩) (Or.inl rfl) v1).setCell (p := ⟨X, 2, none⟩) (Or.inl rfl) v2).setCell (p := ⟨X, 3, none⟩) (Or.inl rfl) v3

/-- A row of one branch. -/
theorem one_row {w : World} {u : Value} {kids : F} {ks : List Nat} (how : Ow w u kids ks) {lab fr : ByteArray} {k ix : Int} (hl : lab.size ≤ maxLen) (hf : fr.size ≤ maxLen) (hk : (Lit.int .i64 k).wf = true) (hi : (Lit.int .i64 ix).wf = true) (t : TypeId) :
    Ow (w.alloc (.cells #[.string lab, .int .i64 k, .string fr, .int .i64 ix, u] t)) (.slice (some ⟨w.heap.size, 0, none⟩) 1 1) (.cons lab k fr ix kids .nil) (w.heap.size :: ks) := by
  have hal := alloc_last w #[.string lab, .int .i64 k, .string fr, .int .i64 ix, u] t
  have h2 := how.same (Same.of_below (alloc_below w (.cells #[.string lab, .int .i64 k, .string fr, .int .i64 ix, u] t)) how.lt)
  obtain ⟨ua, uc, rfl, e1, e2, hkk⟩ := h2
  refine ⟨some ⟨w.heap.size, 0, none⟩, 1, rfl, Nat.le_refl _, by unfold maxLen; omega, Or.inr ⟨w.heap.size, 5, ks, rfl, rfl, ⟨_, t, hal, rfl⟩, by simp, ?_⟩⟩
  exact ⟨hl, hf, hk, hi, cell_of_heap (o := 0) hal, cell_of_heap (o := 1) hal, cell_of_heap (o := 2) hal, cell_of_heap (o := 3) hal, ks, [], by simp, ⟨ua, uc, cell_of_heap (o := 4) hal, e1, e2, hkk⟩, rfl⟩

/-- How the walk comes to a recursion. -/
def AtLoop (w0 w : World) (L : Nat) (v lv lv' : Value) (un un' : Int) (m : Nat) (pv : Option Addr) (bb : Bool) : Prop :=
  (bb = false ∧ pv = none ∧ v = .iface ( /- t -/ 108) (.pointer (some ⟨L, 0, none⟩)) ∧ lv = lv' ∧ un = un') ∨
  (bb = true ∧ pv = some ⟨L, 0, none⟩ ∧ v = .iface ( /- t -/ 112) (.agg #[.pointer (some ⟨L, 0, none⟩)]) ∧ lv' = .slice none 0 0 ∧ un' = 0 ∧ m = 0 ∧ ∃ ps, Pt w lv ps ∧ L ∉ ps ∧ ps.length ≤ 41 ∧ ∀ x, x ∈ ps → ∃ cs, Blk w0 x cs)
end Go.Proofs.YtgcefippeokmcabGreatDoor.Lo

/- Which roles' letters lie in the text of a valid local type: those of its peers. -/
namespace Go.Proofs.YtgcefippeokmcabGreatDoor.Lo
open Go.RowKit

/-- Some action of the list, or of the node, names the letter. -/
def namF (c : UInt8) : F → Prop
  | .nil => False
  | .cons _ k fr _ kids rest => ((k = 2 ∨ k = 3) ∧ inB c fr) ∨ namF c kids ∨ namF c rest
def namN (c : UInt8) (k : Int) (fr : ByteArray) (kids : F) : Prop := ((k = 2 ∨ k = 3) ∧ inB c fr) ∨ namF c kids

/-- All labels of the list are labels. -/
def labF : F → Prop
  | .nil => True
  | .cons lab _ _ _ _ rest => labB lab = true ∧ labF rest
theorem labF_of_asc : ∀ (f : F) (p : Option ByteArray), ascB p f = true → labF f := by
  intro f
  induction f with
  | nil => intro p _; trivial
  | cons lab k fr ix kids rest _ ihr =>
    intro p h
    simp only [ascB, Bool.and_eq_true] at h
    exact ⟨h.1.1, ihr _ h.2⟩

theorem nodeT_letters {c : UInt8} (h1 : 65 ≤ c.toNat) (h2 : c.toNat ≤ 67) {k : Int} {fr : ByteArray} {ix : Int} {kids : F} {b u d : Int} (hb : 0 ≤ b) (hu : 0 ≤ u) (hbd : b + d ≤ 40)
    (ih : ∀ (b u d : Int), 0 ≤ b → 0 ≤ u → b + d ≤ 40 → vldF kids b u d = true → (labF kids → (inB c (txF kids .first) ↔ namF c kids)) ∧ (kids.len = 1 → (inB c (txF kids .body) ↔ namF c kids)))
    (h : vldN k fr ix kids b u d = true) : inB c (txN k fr ix kids) ↔ namN c k fr kids := by
  unfold vldN at h
  obtain ⟨hd, hsh, hk⟩ := node_kinds hu h
  unfold txN nodeT namN
  rcases hk with rfl | ⟨rfl, h0, h3, rfl⟩ | ⟨rfl, hv⟩ | ⟨hkk, hv⟩
  · rw [if_pos rfl]
    have hkn := (shape_end hsh).2.2
    subst hkn
    have := sign_letters h1 h2 46 (by decide)
    simp only [namF]
    constructor
    · intro hm; exact (this hm).elim
    · rintro (⟨h, -⟩ | h)
      · exact absurd h (by decide)
      · exact h.elim
  · rw [if_neg (by decide), if_pos rfl, inB_append]
    have e1 := sign_letters h1 h2 35 (by decide)
    have e2 : ¬ inB c (bdec ix) := by
      intro hm
      exact dec_letters (i := ix.toNat) (by omega) h1 (by simpa [inB, bdec] using hm)
    simp only [namF]
    constructor
    · rintro (hm | hm)
      · exact (e1 hm).elim
      · exact (e2 hm).elim
    · rintro (⟨h, -⟩ | h)
      · exact absurd h (by decide)
      · exact h.elim
  · rw [if_neg (by decide), if_neg (by decide), if_pos rfl, inB_append]
    have e1 := sign_letters h1 h2 64 (by decide)
    obtain ⟨-, -, lab, k', fr', ix', kids', rfl, -⟩ := shape_rec hsh
    have := (ih (b + 1) (u + 1) (d - 1) (by omega) (by omega) (by omega) hv).2 rfl
    rw [this]
    constructor
    · rintro (hm | hm)
      · exact (e1 hm).elim
      · exact Or.inr hm
    · rintro (⟨h, -⟩ | h)
      · exact absurd h (by decide)
      · exact Or.inr h
  · rw [if_neg (by omega), if_neg (by omega), if_neg (by omega), inB_append, inB_append, inB_append]
    have e1 := sign_letters h1 h2 125 (by decide)
    have e3 : ¬ inB c (mark k) := by
      unfold mark
      split
      · exact sign_letters h1 h2 33 (by decide)
      · exact sign_letters h1 h2 63 (by decide)
    have hbr := (shape_act hkk hsh).2.2
    unfold branchesB at hbr
    simp only [Bool.and_eq_true] at hbr
    have := (ih b 0 (d - 1) hb (by omega) (by omega) hv).1 (labF_of_asc _ _ hbr.1)
    rw [this]
    constructor
    · rintro (((hm | hm) | hm) | hm)
      · exact Or.inl ⟨hkk, hm⟩
      · exact (e3 hm).elim
      · exact Or.inr hm
      · exact (e1 hm).elim
    · rintro (⟨-, h⟩ | h)
      · exact Or.inl (Or.inl (Or.inl h))
      · exact Or.inl (Or.inr h)

theorem txF_letters {c : UInt8} (h1 : 65 ≤ c.toNat) (h2 : c.toNat ≤ 67) : ∀ (f : F) (b u d : Int), 0 ≤ b → 0 ≤ u → b + d ≤ 40 → vldF f b u d = true →
    (labF f → ∀ i, (inB c (txF f (md i)) ↔ namF c f)) ∧ (f.len = 1 → (inB c (txF f .body) ↔ namF c f)) := by
  intro f
  induction f with
  | nil =>
    intro b u d _ _ _ _
    refine ⟨fun _ i => ?_, fun h => by simp [F.len] at h⟩
    have : txF F.nil (md i) = ⟨#[]⟩ := rfl
    rw [this]
    simp [inB, namF]
  | cons lab k fr ix kids rest ihk ihr =>
    intro b u d hb hu hbd h
    simp only [vldF, Bool.and_eq_true] at h
    obtain ⟨hn, hr⟩ := h
    have hT := nodeT_letters h1 h2 hb hu hbd (fun b' u' d' g1 g2 g3 g4 => ⟨fun hl => (ihk b' u' d' g1 g2 g3 g4).1 hl 0, (ihk b' u' d' g1 g2 g3 g4).2⟩) hn
    unfold namN at hT
    constructor
    · rintro ⟨hl, hl2⟩ i
      have hR := (ihr b u d hb hu hbd hr).1 hl2 (i + 1)
      have e1 : ¬ inB c (sepB i) := by
        unfold sepB
        split
        · exact sign_letters h1 h2 123 (by decide)
        · exact sign_letters h1 h2 124 (by decide)
      have e2 := lab_letters hl h2
      rw [txF_md, inB_append, inB_append, inB_append, hR, hT]
      simp only [namF]
      constructor
      · rintro (((hm | hm) | (hm | hm)) | hm)
        · exact (e1 hm).elim
        · exact (e2 hm).elim
        · exact Or.inl hm
        · exact Or.inr (Or.inl hm)
        · exact Or.inr (Or.inr hm)
      · rintro (hm | hm | hm)
        · exact Or.inl (Or.inr (Or.inl hm))
        · exact Or.inl (Or.inr (Or.inr hm))
        · exact Or.inr hm
    · intro hl
      have hr0 : rest = .nil := nil_of_len (by simp only [F.len] at hl; omega)
      subst hr0
      have hB : txF (.cons lab k fr ix kids .nil) .body = txN k fr ix kids := rfl
      rw [hB, hT]
      simp only [namF, or_false]

/-- A role's letter lies in the text of a valid node just if a message names it. -/
theorem txN_letters {c : UInt8} (h1 : 65 ≤ c.toNat) (h2 : c.toNat ≤ 67) {k : Int} {fr : ByteArray} {ix : Int} {kids : F} {b u d : Int} (hb : 0 ≤ b) (hu : 0 ≤ u) (hbd : b + d ≤ 40) (h : vldN k fr ix kids b u d = true) :
    inB c (txN k fr ix kids) ↔ namN c k fr kids :=
  nodeT_letters h1 h2 hb hu hbd (fun b' u' d' g1 g2 g3 g4 => ⟨fun hl => (txF_letters h1 h2 kids b' u' d' g1 g2 g3 g4).1 hl 0, (txF_letters h1 h2 kids b' u' d' g1 g2 g3 g4).2⟩) h
end Go.Proofs.YtgcefippeokmcabGreatDoor.Lo

/- l2Peers of the model. -/
namespace Go.Proofs.YtgcefippeokmcabGreatDoor.Lo
open Go.RowKit

/-- Some node of the list names the letter. -/
def namFb (c : UInt8) : F → Bool
  | .nil => false
  | .cons _ k fr _ kids rest => ((k == 2 || k == 3) && (hasB fr c)) || namFb c kids || namFb c rest
def namNb (c : UInt8) (k : Int) (fr : ByteArray) (kids : F) : Bool := ((k == 2 || k == 3) && (hasB fr c)) || namFb c kids
theorem namFb_iff (c : UInt8) : ∀ f : F, namFb c f = true ↔ namF c f := by
  intro f
  induction f with
  | nil => simp [namFb, namF]
  | cons lab k fr ix kids rest ihk ihr =>
    simp only [namFb, namF, Bool.or_eq_true, Bool.and_eq_true, beq_iff_eq, ihk, ihr, hasB_iff, or_assoc]
theorem namNb_iff (c : UInt8) (k : Int) (fr : ByteArray) (kids : F) : namNb c k fr kids = true ↔ namN c k fr kids := by
  simp only [namNb, namN, Bool.or_eq_true, Bool.and_eq_true, beq_iff_eq, namFb_iff, hasB_iff]

theorem kids_valid {k : Int} {fr : ByteArray} {ix : Int} {kids : F} {b u d : Int} (hu : 0 ≤ u) (h : vldN k fr ix kids b u d = true) : ∃ b' u' d', 0 ≤ u' ∧ vldF kids b' u' d' = true := by
  unfold vldN at h
  obtain ⟨-, hsh, hk⟩ := node_kinds hu h
  rcases hk with rfl | ⟨-, -, -, rfl⟩ | ⟨-, h3⟩ | ⟨-, h3⟩
  · have := (shape_end hsh).2.2
    subst this
    exact ⟨0, 0, 0, Int.le_refl _, rfl⟩
  · exact ⟨0, 0, 0, Int.le_refl _, rfl⟩
  · exact ⟨_, _, _, by omega, h3⟩
  · exact ⟨_, _, _, Int.le_refl _, h3⟩

def RoAt (n : Nat) : Prop := ∀ (w : World) (k ix b u d : Int) (fr : ByteArray) (sv : Value) (kids : F) (p : UInt8 → Bool), kids.sz < n → Sl w sv kids → 0 ≤ u → vldN k fr ix kids b u d = true →
  Calls Tryz.prog 41 #[.string (setS p), .agg #[.int .i64 k, .string fr, .int .i64 ix, sv]] w fun e w' => e = .returned (.string (setS (fun c => p c || namNb c k fr kids))) ∧ Below w.heap.size w w'

set_option maxHeartbeats 1600000 in
set_option maxRecDepth 100000 in
theorem ro_none (n : Nat) (ih : RoAt n) (w : World) (k ix b u d : Int) (fr : ByteArray) (sv : Value) (kids : F) (p : UInt8 → Bool) (hn : kids.sz < n + 1) (hs : Sl w sv kids) (hu : 0 ≤ u) (hv : vldN k fr ix kids b u d = true) (hk2 : (k == 2 || k == 3) = false) :
    Calls Tryz.prog 41 #[.string (setS p), .agg #[.int .i64 k, .string fr, .int .i64 ix, sv]] w fun e w' => e = .returned (.string (setS (fun c => p c || namNb c k fr kids))) ∧ Below w.heap.size w w' := by
  obtain ⟨b', u', d', hu0, hvk⟩ := kids_valid hu hv
  have HV := hide hvk
  obtain ⟨a, cap, rfl, hlen, hat⟩ := hs.at
  unfold maxLen at hlen
  have HA := hide hat
  have HN := hide hn
  have hb0 := alloc_below w (.cells #[.int .i64 k, .string fr, .int .i64 ix, .slice a kids.len cap] ( /- t -/ 33))
  have hbx := alloc_last w #[.int .i64 k, .string fr, .int .i64 ix, .slice a kids.len cap] ( /- t -/ 33)
  have HB0 := hide hb0
  clear hs hat hn hv hvk hb0
  go_enter Tryz.func41, Tryz.ntmps41
  go_wp2_with (first | (go_at_call 48; refine (act_calls k false hk2 _).mono ?_; rintro e w' ⟨rfl, rfl⟩) | fail)
  generalize (w.alloc (.cells #[.int .i64 k, .string fr, .int .i64 ix, .slice a kids.len cap] ( /- t -/ 33))) = W at *
  have c4 : W.cell? ⟨w.heap.size, 3, none⟩ = some (.slice a kids.len cap) := cell_of_heap (o := 3) hbx
  have hWl : w.heap.size < W.heap.size := World.block_lt_of_cell? _ _ c4
  clear hbx
  go_loopw [0, 5] (fun sv iv wr => ∃ (g : F) (j : Nat) (q : UInt8 → Bool), j + g.len = kids.len ∧ sv = .string (setS q) ∧ iv = .int .i64 j ∧ g.sz ≤ kids.sz ∧ At w a j g ∧ vldF g b' u' d' = true ∧ (∀ c, (q c || namFb c g) = (p c || namFb c kids)) ∧ wr.cell? ⟨w.heap.size, 3, none⟩ = some (.slice a kids.len cap) ∧ Below w.heap.size w wr) (fun _ iv _ => kids.len - (intOf iv).toNat)
  case atStart => exact ⟨kids, 0, _, by omega, rfl, rfl, Nat.le_refl _, HA.out, HV.out, fun _ => rfl, c4, HB0.out⟩
  case round =>
    obtain ⟨g, j, q, hk, rfl, rfl, h5, hg, hv, hq, hc4, hbw⟩ := hrel
    have HQ := hide hq
    have HB := hide hbw
    have HG := hide hg
    have HK := hide hk
    have H5 := hide h5
    clear hq h5
    cases g with
    | nil =>
      have hge : kids.len ≤ j := by simp only [F.len] at hk; omega
      clear hk hg hv hbw
      go_wp2_with fail
      go_ret
      refine ⟨?_, HB.out⟩
      refine congrArg (fun x => Ending.returned (Value.string x)) (setS_congr fun c _ => ?_)
      have := HQ.out c
      simp only [namFb, Bool.or_false] at this
      rw [this]
      simp only [namNb]
      rw [hk2, Bool.false_and, Bool.false_or]
    | cons lab kd fr' ix' kids' rest =>
      have hlt : j < kids.len := by simp only [F.len] at hk; omega
      obtain ⟨bb, o, rfl, _, _, _, _, q0, q1, q2, q3, ⟨sv', q4, hsv⟩, _⟩ := (hg.still (Still.of_below hbw)).head
      have HS := hide hsv
      simp only [vldF, Bool.and_eq_true] at hv
      have HV2 := hide hv
      clear hk hg hv hsv
      go_wp2_with fail
      refine (ih wr kd ix' b' u' d' fr' sv' kids' q ?_ HS.out hu0 HV2.out.1).mono ?_
      · have h1 := HN.out
        have h2 := H5.out
        simp only [F.sz] at h2
        omega
      rintro e w3 ⟨rfl, hb5⟩
      have HB2 := hide (hbw.trans (hb5.mono hbw.size))
      have hc4' := (hb5.cell (p := ⟨w.heap.size, 3, none⟩) (World.block_lt_of_cell? _ _ hc4)).trans hc4
      clear hb5
      go_wp2_with fail
      refine ⟨⟨rest, j + 1, _, ?_, rfl, by go_num, ?_, HG.out.tail, HV2.out.2, fun c => ?_, hc4', HB2.out⟩, by simp [intOf]; omega⟩
      · have := HK.out
        simp only [F.len] at this
        omega
      · have := H5.out
        simp only [F.sz] at this
        omega
      · have h9 := HQ.out c
        simp only [namFb] at h9
        rw [← h9]
        simp only [namNb, Bool.or_assoc]

set_option maxHeartbeats 1600000 in
set_option maxRecDepth 100000 in
theorem ro_own (n : Nat) (ih : RoAt n) (w : World) (k ix b u d : Int) (fr : ByteArray) (sv : Value) (kids : F) (p : UInt8 → Bool) (hn : kids.sz < n + 1) (hs : Sl w sv kids) (hu : 0 ≤ u) (hv : vldN k fr ix kids b u d = true) (hk2 : (k == 2 || k == 3) = true) :
    Calls Tryz.prog 41 #[.string (setS p), .agg #[.int .i64 k, .string fr, .int .i64 ix, sv]] w fun e w' => e = .returned (.string (setS (fun c => p c || namNb c k fr kids))) ∧ Below w.heap.size w w' := by
  obtain ⟨b', u', d', hu0, hvk⟩ := kids_valid hu hv
  have HV := hide hvk
  obtain ⟨a, cap, rfl, hlen, hat⟩ := hs.at
  unfold maxLen at hlen
  have HA := hide hat
  have HN := hide hn
  have hkk : k = 2 ∨ k = 3 := by simpa using hk2
  have hsh := (node_kinds hu (by unfold vldN at hv; exact hv)).2.1
  obtain ⟨e1, -, -⟩ := shape_act hkk hsh
  obtain ⟨hf1, hf2, hf3⟩ := role_one e1
  have hb0 := alloc_below w (.cells #[.int .i64 k, .string fr, .int .i64 ix, .slice a kids.len cap] ( /- t -/ 33))
  have hbx := alloc_last w #[.int .i64 k, .string fr, .int .i64 ix, .slice a kids.len cap] ( /- t -/ 33)
  have HB0 := hide hb0
  have HF2 := hide hf2
  have HF3 := hide hf3
  clear hs hat hn hv hvk hb0 hf2 hf3 hsh e1 hkk
  obtain ⟨s0, hs0⟩ : ∃ s0, s0 = setS p := ⟨_, rfl⟩
  obtain ⟨s1, hs1⟩ : ∃ s1, s1 = setS (fun x => x == fr[0] || p x) := ⟨_, rfl⟩
  have i1 : ∀ W : World, Calls Tryz.prog 50 #[.string s0, .int .u8 (fr[0].toNat : Int)] W fun e w' => e = .returned (.string s1) ∧ Below W.heap.size W w' := fun W => by rw [hs0, hs1]; exact ins_set p fr[0] HF2.out W
  rw [← hs0]
  have I1 := hide i1
  have HS2 := hide hs1
  clear i1 hs0 hs1
  go_enter Tryz.func41, Tryz.ntmps41
  go_wp2_with (first | (go_at_call 48; refine (act_calls k true hk2 _).mono ?_; rintro e w' ⟨rfl, rfl⟩) | fail)
  generalize (w.alloc (.cells #[.int .i64 k, .string fr, .int .i64 ix, .slice a kids.len cap] ( /- t -/ 33))) = W at *
  have c1 : W.cell? ⟨w.heap.size, 1, none⟩ = some (.string fr) := cell_of_heap (o := 1) hbx
  have c4 : W.cell? ⟨w.heap.size, 3, none⟩ = some (.slice a kids.len cap) := cell_of_heap (o := 3) hbx
  have hWl : w.heap.size < W.heap.size := World.block_lt_of_cell? _ _ c4
  clear hbx
  refine (I1.out _).mono ?_
  rintro e w6 ⟨rfl, hb6⟩
  have hbS := hb6
  have d4 : w6.cell? ⟨w.heap.size, 3, none⟩ = some (.slice a kids.len cap) := (hbS.cell (p := ⟨w.heap.size, 3, none⟩) hWl).trans c4
  have HBS := hide (HB0.out.trans (hbS.mono HB0.out.size))
  clear hbS hb6 c1 c4
  go_wp2_with fail
  go_loopw [0, 5] (fun sv iv wr => ∃ (g : F) (j : Nat) (q : UInt8 → Bool), j + g.len = kids.len ∧ sv = .string (setS q) ∧ iv = .int .i64 j ∧ g.sz ≤ kids.sz ∧ At w a j g ∧ vldF g b' u' d' = true ∧ (∀ c, (q c || namFb c g) = ((c == fr[0] || p c) || namFb c kids)) ∧ wr.cell? ⟨w.heap.size, 3, none⟩ = some (.slice a kids.len cap) ∧ Below w.heap.size w wr) (fun _ iv _ => kids.len - (intOf iv).toNat)
  case atStart => exact ⟨kids, 0, fun x => x == fr[0] || p x, by omega, by rw [HS2.out], rfl, Nat.le_refl _, HA.out, HV.out, fun _ => rfl, d4, HBS.out⟩
  case round =>
    obtain ⟨g, j, q, hk, rfl, rfl, h5, hg, hv, hq, hc4, hbw⟩ := hrel
    have HQ := hide hq
    have HB := hide hbw
    have HG := hide hg
    have HK := hide hk
    have H5 := hide h5
    clear hq h5
    cases g with
    | nil =>
      have hge : kids.len ≤ j := by simp only [F.len] at hk; omega
      clear hk hg hv hbw
      go_wp2_with fail
      go_ret
      refine ⟨?_, HB.out⟩
      refine congrArg (fun x => Ending.returned (Value.string x)) (setS_congr fun c _ => ?_)
      have := HQ.out c
      simp only [namFb, Bool.or_false] at this
      rw [this]
      simp only [namNb]
      rw [hk2, HF3.out c]
      cases p c <;> cases (c == fr[0]) <;> simp
    | cons lab kd fr' ix' kids' rest =>
      have hlt : j < kids.len := by simp only [F.len] at hk; omega
      obtain ⟨bb, o, rfl, _, _, _, _, q0, q1, q2, q3, ⟨sv', q4, hsv⟩, _⟩ := (hg.still (Still.of_below hbw)).head
      have HS := hide hsv
      simp only [vldF, Bool.and_eq_true] at hv
      have HV2 := hide hv
      clear hk hg hv hsv
      go_wp2_with fail
      refine (ih wr kd ix' b' u' d' fr' sv' kids' q ?_ HS.out hu0 HV2.out.1).mono ?_
      · have h1 := HN.out
        have h2 := H5.out
        simp only [F.sz] at h2
        omega
      rintro e w3 ⟨rfl, hb5⟩
      have HB2 := hide (hbw.trans (hb5.mono hbw.size))
      have hc4' := (hb5.cell (p := ⟨w.heap.size, 3, none⟩) (World.block_lt_of_cell? _ _ hc4)).trans hc4
      clear hb5
      go_wp2_with fail
      refine ⟨⟨rest, j + 1, _, ?_, rfl, by go_num, ?_, HG.out.tail, HV2.out.2, fun c => ?_, hc4', HB2.out⟩, by simp [intOf]; omega⟩
      · have := HK.out
        simp only [F.len] at this
        omega
      · have := H5.out
        simp only [F.sz] at this
        omega
      · have h9 := HQ.out c
        simp only [namFb] at h9
        rw [← h9]
        simp only [namNb, Bool.or_assoc]

theorem ro_all : ∀ n, RoAt n := by
  intro n
  induction n with
  | zero => intro w k ix b u d fr sv kids p hn; omega
  | succ n ih =>
    intro w k ix b u d fr sv kids p hn hs hu hv
    cases h2 : (k == 2 || k == 3) with
    | true => exact ro_own n ih w k ix b u d fr sv kids p hn hs hu hv h2
    | false => exact ro_none n ih w k ix b u d fr sv kids p hn hs hu hv h2

/-- The peers of a local type. -/
def peersN (k : Int) (fr : ByteArray) (ix : Int) (kids : F) : ByteArray := if okN k fr ix kids then setS (fun c => namNb c k fr kids) else ⟨#[]⟩
theorem peersN_text (k : Int) (fr : ByteArray) (ix : Int) (kids : F) : setS (hasB (textN k fr ix kids)) = peersN k fr ix kids := by
  unfold peersN textN
  cases h : okN k fr ix kids with
  | false => rfl
  | true =>
    rw [if_pos rfl, if_pos rfl]
    unfold okN at h
    simp only [Bool.and_eq_true] at h
    refine setS_congr fun c hc => ?_
    have h1 : 65 ≤ c.toNat ∧ c.toNat ≤ 67 := by rcases hc with rfl | rfl | rfl <;> decide
    rw [Bool.eq_iff_iff, hasB_iff, namNb_iff]
    exact txN_letters h1.1 h1.2 (by omega) (by omega) (by omega) h.1

set_option maxHeartbeats 400000 in
set_option maxRecDepth 100000 in
/-- LocalPeers of the model. -/
theorem specPeers (w : World) (k ix : Int) (fr : ByteArray) (sv : Value) (kids : F) (hs : Sl w sv kids) (hbig : kids.sz ≤ 1048576) :
    Calls Tryz.prog 28 #[.agg #[.int .i64 k, .string fr, .int .i64 ix, sv]] w fun e w' => e = .returned (.string (peersN k fr ix kids)) ∧ Below w.heap.size w w' := by
  have HS := hide hs
  clear hs
  go_enter Tryz.func28, Tryz.ntmps28
  go_wp2_with fail
  refine (specValid _ k ix fr sv kids (HS.out.still (Still.of_below (alloc_below _ _))) hbig).mono ?_
  rintro e w1 ⟨rfl, hb⟩
  have BX := (Box4.now w (.int .i64 k) (.string fr) (.int .i64 ix) sv ( /- t -/ 33)).below hb
  obtain ⟨c0, c1, c2, c3⟩ := BX.cells
  have hlt := BX.lt
  have hb2 := alloc_then hb
  clear BX hb
  cases hv : okN k fr ix kids with
  | false =>
    go_wp2_with fail
    go_ret
    refine ⟨?_, hb2⟩
    unfold peersN
    rw [hv]
    rfl
  | true =>
    have HV := hide hv
    have h2 := hv
    unfold okN at h2
    simp only [Bool.and_eq_true, decide_eq_true_eq] at h2
    have H2 := hide h2
    clear hv h2
    go_wp2_with fail
    refine (ro_all (kids.sz + 1) w1 k ix 0 0 40 fr sv kids (fun _ => false) (Nat.lt_succ_self _) (HS.out.still (Still.of_below hb2)) (by omega) H2.out.1).mono ?_
    rintro e w2 ⟨rfl, hb3⟩
    have hb4 := hb2.trans (hb3.mono hb2.size)
    clear hb3
    go_wp2_with fail
    go_ret
    refine ⟨?_, hb4⟩
    unfold peersN
    rw [HV.out, if_pos rfl]
    exact congrArg (fun x => Ending.returned (Value.string x)) (setS_congr fun c _ => Bool.false_or _)
end Go.Proofs.YtgcefippeokmcabGreatDoor.Lo

/- markText of the laws. -/
namespace Go.Proofs.YtgcefippeokmcabGreatDoor
open Go.RowKit

/-- The last digit's byte. -/
def dgB (k : Nat) : UInt8 := UInt8.ofNat (48 + k % 10)
theorem dgB_toNat (k : Nat) : (dgB k).toNat = 48 + k % 10 := by
  unfold dgB
  rw [UInt8.toNat_ofNat']
  omega
theorem ba_cons (x : UInt8) (l : List UInt8) : ((⟨#[x]⟩ : ByteArray) ++ ⟨l.toArray⟩) = ⟨(x :: l).toArray⟩ := by
  apply ByteArray.ext
  simp
def mtLoop : Nat → Nat → List UInt8 → List UInt8
  | 0, _, acc => acc
  | n + 1, k, acc => if k = 0 then acc else mtLoop n (k / 10) (dgB k :: acc)
/-- The text of a mark. -/
def MT (k : Nat) : ByteArray := ⟨(109 :: mtLoop k k []).toArray⟩

/-- One byte in a box, made into a string. -/
theorem conv_one (w : World) (c : UInt8) (n : Int) (hn : n = (c.toNat : Int)) (cap : Nat) (a : Addr) (hc : w.cell? a = some (.int .u8 n)) :
    (convert ( /- t -/ 93) ( /- t -/ 9) (.slice (some a) 1 cap)).run Tryz.prog w = .ok (.string ⟨#[c]⟩) w := by
  have h := run_convert_bytes_back (P := Tryz.prog) w ( /- t -/ 93) ( /- t -/ 9) ( /- t -/ 5) a cap [c] Tryz.underlying93 Tryz.underlying5 Tryz.underlying9
  refine h (fun j hj => ?_)
  have hj0 : j = 0 := by simp at hj; exact hj
  subst hj0
  rw [hn] at hc
  exact hc

theorem mtLoop_done (acc : List UInt8) : ∀ n, mtLoop n 0 acc = acc
  | 0 => rfl
  | n + 1 => by simp [mtLoop]

set_option maxHeartbeats 800000 in
set_option maxRecDepth 100000 in
theorem mt_calls (k : Nat) (hk : 1 ≤ k) (hk2 : k ≤ 16777216) (w : World) : Calls Tryz.prog 47 #[.int .i64 (k : Int)] w fun e w' => e = .returned (.string (MT k)) ∧ Below w.heap.size w w' := by
  go_enter Tryz.func47, Tryz.ntmps47
  go_wp2_with fail
  go_loopw [0, 3] (fun kv ov wr => ∃ (kk n : Nat) (acc : List UInt8), kv = .int .i64 kk ∧ ov = .string ⟨acc.toArray⟩ ∧ kk ≤ n ∧ kk ≤ k ∧ acc.length + n ≤ k ∧ mtLoop n kk acc = mtLoop k k [] ∧ Below w.heap.size w wr) (fun kv _ _ => (intOf kv).toNat)
  case atStart => exact ⟨k, k, [], rfl, rfl, Nat.le_refl _, Nat.le_refl _, by simp, rfl, Below.refl _ _⟩
  case round =>
    obtain ⟨kk, n, acc, rfl, rfl, h1, h2, h3, h4, hb⟩ := hrel
    have H4 := hide h4
    clear h4
    by_cases hz : 0 < kk
    · have hcv : (convert ( /- t -/ 93) ( /- t -/ 9) (.slice (some ⟨wr.heap.size, 0, none⟩) 1 1)).run Tryz.prog (wr.alloc (.cells #[.int .u8 (48 + (kk : Int) % 10)] ( /- t -/ 5))) =
          .ok (.string ⟨#[dgB kk]⟩) (wr.alloc (.cells #[.int .u8 (48 + (kk : Int) % 10)] ( /- t -/ 5))) := by
        refine conv_one _ (dgB kk) (48 + (kk : Int) % 10) ?_ 1 _ ?_
        · rw [dgB_toNat]
          omega
        · go_simp
      go_wp2_with fail
      rw [ba_cons]
      cases n with
      | zero => omega
      | succ n =>
        refine ⟨⟨kk / 10, n, dgB kk :: acc, by go_num, rfl, by omega, by omega, by simp only [List.length_cons]; omega, ?_, hb.alloc hb.size _⟩, by simp [intOf]; omega⟩
        rw [← H4.out, mtLoop, if_neg (by omega)]
    · have h0 : kk = 0 := by omega
      subst h0
      go_wp2_with fail
      go_ret
      have := H4.out
      rw [mtLoop_done] at this
      refine ⟨?_, hb⟩
      show Ending.returned (.string (⟨#[109]⟩ ++ ⟨acc.toArray⟩)) = _
      unfold MT
      rw [← this, ba_cons]
theorem MT_size (k : Nat) (hk : k ≤ 16777216) : (MT k).size ≤ maxLen := by
  have h : ∀ n kk acc, (mtLoop n kk acc).length ≤ acc.length + n := by
    intro n
    induction n with
    | zero => intro kk acc; simp [mtLoop]
    | succ n ih =>
      intro kk acc
      unfold mtLoop
      split
      · omega
      · have := ih (kk / 10) (dgB kk :: acc)
        simp only [List.length_cons] at this
        omega
  have h2 := h k k []
  have h3 : (MT k).size = (mtLoop k k []).length + 1 := by
    unfold MT
    show (List.toArray (109 :: mtLoop k k [])).size = _
    simp
  rw [h3]
  unfold maxLen
  simp only [List.length_nil] at h2
  omega
end Go.Proofs.YtgcefippeokmcabGreatDoor

/- markLocal: every place below the root is written, each with a mark of its own. -/
namespace Go.Proofs.YtgcefippeokmcabGreatDoor.Lo
open Go.RowKit

/-- The list with a mark at every place, from k on. -/
def mkF : F → Nat → F
  | .nil, _ => .nil
  | .cons _ _ _ _ kids rest, k => .cons (MT k) (((k + 1 : Nat) : Int)) (MT (k + 2)) (((k + 3 : Nat) : Int)) (mkF kids (k + 4)) (mkF rest (k + 4 + 4 * kids.sz))

theorem mkF_len : ∀ (f : F) (k : Nat), (mkF f k).len = f.len
  | .nil, _ => rfl
  | .cons _ _ _ _ kids rest, k => by simp only [mkF, F.len, mkF_len rest]
theorem mkF_app (g : F) : ∀ (f : F) (k : Nat), mkF (f.app g) k = (mkF f k).app (mkF g (k + 4 * f.sz))
  | .nil, k => by simp [F.app, mkF, F.sz]
  | .cons _ _ _ _ kids rest, k => by
    simp only [F.app, mkF, mkF_app g rest, F.sz]
    rw [show k + 4 + 4 * kids.sz + 4 * rest.sz = k + 4 * (kids.sz + rest.sz + 1) by omega]
theorem mkF_nil {f : F} (k : Nat) (h : mkF f k = .nil) : f = .nil := by
  cases f with
  | nil => rfl
  | cons => simp [mkF] at h

/-- The four marks of one branch: the world ahead of the branches below it. -/
theorem mark_mid {wr w1 w2 : World} {b n o : Nat} {s0 s1 s2 s3 v4 : Value} (hf : Free wr b n) (h4 : wr.cell? ⟨b, o + 4, none⟩ = some v4)
    (hb1 : Below wr.heap.size wr w1) (hb2 : Below (((w1.setCell ⟨b, o, none⟩ s0).setCell ⟨b, o + 1, none⟩ s1)).heap.size ((w1.setCell ⟨b, o, none⟩ s0).setCell ⟨b, o + 1, none⟩ s1) w2) :
    Wr [b] wr ((w2.setCell ⟨b, o + 2, none⟩ s2).setCell ⟨b, o + 3, none⟩ s3) ∧ Free ((w2.setCell ⟨b, o + 2, none⟩ s2).setCell ⟨b, o + 3, none⟩ s3) b n ∧
    (∀ off, off < o ∨ o + 4 ≤ off → ((w2.setCell ⟨b, o + 2, none⟩ s2).setCell ⟨b, o + 3, none⟩ s3).cell? ⟨b, off, none⟩ = wr.cell? ⟨b, off, none⟩) ∧
    ((w2.setCell ⟨b, o + 2, none⟩ s2).setCell ⟨b, o + 3, none⟩ s3).cell? ⟨b, o, none⟩ = some s0 ∧ ((w2.setCell ⟨b, o + 2, none⟩ s2).setCell ⟨b, o + 3, none⟩ s3).cell? ⟨b, o + 1, none⟩ = some s1 ∧
    ((w2.setCell ⟨b, o + 2, none⟩ s2).setCell ⟨b, o + 3, none⟩ s3).cell? ⟨b, o + 2, none⟩ = some s2 ∧ ((w2.setCell ⟨b, o + 2, none⟩ s2).setCell ⟨b, o + 3, none⟩ s3).cell? ⟨b, o + 3, none⟩ = some s3 := by
  have ho := Free.lt_cell hf h4
  have hlt := hf.lt
  obtain ⟨cs, t, hh, hn⟩ := hf
  have e1 : w1.heap[b]? = some (.cells cs t (0, 0)) := (hb1.block b hlt).trans hh
  have hlt1 : b < w1.heap.size := Nat.lt_of_lt_of_le hlt hb1.size
  have e2 := heap_setCell_same (o := o + 1) (heap_setCell_same (o := o) e1 s0) s1
  have e3 : w2.heap[b]? = _ := (hb2.block b (by simpa using hlt1)).trans e2
  have key := heap_setCell_same (o := o + 3) (heap_setCell_same (o := o + 2) e3 s2) s3
  have r1 : Wr [b] wr w1 := Wr.of_below hb1
  have r2 : Wr [b] wr w2 := ((r1.setCell (p := ⟨b, o, none⟩) (by simp) s0).setCell (p := ⟨b, o + 1, none⟩) (by simp) s1).trans (Wr.of_below hb2)
  refine ⟨(r2.setCell (p := ⟨b, o + 2, none⟩) (by simp) s2).setCell (p := ⟨b, o + 3, none⟩) (by simp) s3, ⟨_, t, key, by simp [hn]⟩, fun off hoff => ?_, ?_, ?_, ?_, ?_⟩
  · rw [cell_of_heap key, cell_of_heap hh]
    simp only [Array.getElem?_setIfInBounds]
    repeat rw [if_neg (by omega)]
  all_goals
    rw [cell_of_heap key]
    simp [Array.getElem?_setIfInBounds]
    omega

def MkPost (f : F) (v : Value) (bs : List Nat) (k : Nat) (w : World) (e : Ending) (w' : World) : Prop :=
  e = .returned (.int .i64 ((k + 4 * f.sz : Nat) : Int)) ∧ Ow w' v (mkF f k) bs ∧ Wr bs w w'
def MkS (f : F) : Prop := ∀ (w : World) (v : Value) (bs : List Nat) (k : Nat), Ow w v f bs → bs.Nodup → 1 ≤ k → k + 4 * f.sz ≤ 16777216 → Calls Tryz.prog 36 #[v, .int .i64 (k : Int)] w (MkPost f v bs k w)

def MkRel (w : World) (b n : Nat) (f : F) (bs : List Nat) (k : Nat) (kv iv : Value) (wr : World) : Prop :=
  ∃ p g b1 b2, f = p.app g ∧ bs = b1 ++ b2 ∧ kv = .int .i64 ((k + 4 * p.sz : Nat) : Int) ∧ iv = .int .i64 (p.len : Nat) ∧ OwRow wr b 0 (mkF p k) b1 ∧ OwRow wr b (p.len * 5) g b2 ∧ Free wr b n ∧ Wr (b :: b1) w wr

/-- One round more. -/
theorem mark_step {w wr C w4 : World} {b n k : Nat} {p kids rest : F} {b1 ks rs : List Nat} {lab fr : ByteArray} {kd ix : Int} {a5 : Option Addr} {cap5 : Nat} (hk : k + 4 * ((p.app (.cons lab kd fr ix kids rest)).sz) ≤ 16777216)
    (hnd : (b :: (b1 ++ (ks ++ rs))).Nodup) (hp : OwRow wr b 0 (mkF p k) b1) (hrest : OwRow wr b (p.len * 5 + 5) rest rs) (hfree : Free wr b n) (hw : Wr (b :: b1) w wr)
    (hC : Wr [b] wr C) (hCf : Free C b n) (hCo : ∀ off, off < p.len * 5 ∨ p.len * 5 + 4 ≤ off → C.cell? ⟨b, off, none⟩ = wr.cell? ⟨b, off, none⟩) (h5 : wr.cell? ⟨b, p.len * 5 + 4, none⟩ = some (.slice a5 kids.len cap5))
    (m0 : C.cell? ⟨b, p.len * 5, none⟩ = some (.string (MT (k + 4 * p.sz)))) (m1 : C.cell? ⟨b, p.len * 5 + 1, none⟩ = some (.int .i64 ((k + 4 * p.sz + 1 : Nat) : Int))) (m2 : C.cell? ⟨b, p.len * 5 + 2, none⟩ = some (.string (MT (k + 4 * p.sz + 2))))
    (m3 : C.cell? ⟨b, p.len * 5 + 3, none⟩ = some (.int .i64 ((k + 4 * p.sz + 3 : Nat) : Int)))
    (how : Ow w4 (.slice a5 kids.len cap5) (mkF kids (k + 4 * p.sz + 4)) ks) (h4 : Wr ks C w4) :
    MkRel w b n (p.app (.cons lab kd fr ix kids rest)) (b1 ++ (ks ++ rs)) k (.int .i64 ((k + 4 * p.sz + 4 + 4 * kids.sz : Nat) : Int)) (.int .i64 ((p.len + 1 : Nat) : Int)) w4 := by
  have hlb := hfree.lt
  have hlp := hp.lt _ _ _ _
  have hlr := hrest.lt _ _ _ _
  obtain ⟨hnb, hnd2⟩ := List.nodup_cons.1 hnd
  obtain ⟨hn1, hn23, hd1⟩ := List.nodup_append.1 hnd2
  obtain ⟨hn2, hn3, hd2⟩ := List.nodup_append.1 hn23
  have nb1 : ∀ x, x ∈ b1 → x ≠ b := fun x hx e => hnb (by rw [← e]; exact List.mem_append_left _ hx)
  have nbk : b ∉ ks := fun h => hnb (List.mem_append_right _ (List.mem_append_left _ h))
  have nbr : ∀ x, x ∈ rs → x ≠ b := fun x hx e => hnb (by rw [← e]; exact List.mem_append_right _ (List.mem_append_right _ hx))
  have e1k : ∀ x, x ∈ b1 → x ∉ ks := fun x hx hk => hd1 x hx x (List.mem_append_left _ hk) rfl
  have erk : ∀ x, x ∈ rs → x ∉ ks := fun x hx hk => hd2 x hk x hx rfl
  have hb4 : w4.heap[b]? = C.heap[b]? := h4.block b (Nat.lt_of_lt_of_le hlb hC.size) nbk
  have hcell : ∀ off, w4.cell? ⟨b, off, none⟩ = C.cell? ⟨b, off, none⟩ := fun off => Same.cell hb4
  have same1 : Same wr w4 b1 := fun x hx => (h4.block x (Nat.lt_of_lt_of_le (hlp x hx) hC.size) (e1k x hx)).trans (hC.block x (hlp x hx) (by simpa using nb1 x hx))
  have same3 : Same wr w4 rs := fun x hx => (h4.block x (Nat.lt_of_lt_of_le (hlr x hx) hC.size) (erk x hx)).trans (hC.block x (hlr x hx) (by simpa using nbr x hx))
  have hs0 : k + 4 * p.sz + 4 ≤ 16777216 := by rw [F.sz_app] at hk; simp only [F.sz] at hk; omega
  obtain ⟨a, cap, e, q1, q2, q3⟩ := how
  refine ⟨p.app (.cons lab kd fr ix kids .nil), rest, b1 ++ ks, rs, by rw [F.app_assoc]; rfl, by rw [List.append_assoc], ?_, by rw [F.len_app]; rfl, ?_, ?_, hCf.same hb4, ?_⟩
  · rw [F.sz_app]
    simp only [F.sz]
    rw [show k + 4 * (p.sz + (kids.sz + 0 + 1)) = k + 4 * p.sz + 4 + 4 * kids.sz by omega]
  · rw [mkF_app]
    refine OwRow.app _ _ _ _ _ _ (hp.same _ _ _ _ (fun i hi => ?_) same1) ?_
    · rw [mkF_len] at hi
      rw [hcell, hCo _ (by omega)]
    · rw [mkF_len, show 0 + 5 * p.len = p.len * 5 by omega]
      refine ⟨MT_size _ (by omega), MT_size _ (by omega), WalkArith.wf_i64 (by omega), WalkArith.wf_i64 (by omega), (hcell _).trans m0, (hcell _).trans m1, (hcell _).trans m2, (hcell _).trans m3, ks, [], by simp, ⟨a, cap, ?_, q1, q2, q3⟩, rfl⟩
      rw [hcell, hCo _ (by omega), h5, e]
  · rw [F.len_app]
    simp only [F.len]
    rw [show (p.len + (0 + 1)) * 5 = p.len * 5 + 5 by omega]
    refine hrest.same _ _ _ _ (fun i hi => ?_) same3
    rw [hcell, hCo _ (by omega)]
  · refine ((hw.mono (fun x hx => ?_)).trans (hC.mono (fun x hx => ?_))).trans (h4.mono (fun x hx => ?_))
    · rcases List.mem_cons.1 hx with rfl | hx
      · simp
      · simp [hx]
    · simp at hx
      simp [hx]
    · simp [hx]

theorem mt_int (z : Int) (h1 : 1 ≤ z) (h2 : z ≤ 16777216) (w : World) : Calls Tryz.prog 47 #[.int .i64 z] w fun e w' => e = .returned (.string (MT z.toNat)) ∧ Below w.heap.size w w' := by
  obtain ⟨k, rfl⟩ := Int.eq_ofNat_of_zero_le (show 0 ≤ z by omega)
  exact mt_calls k (by omega) (by omega) w

set_option maxHeartbeats 1000000 in
set_option maxRecDepth 100000 in
theorem mark_slice_lt : ∀ (n : Nat) (f : F), f.sz < n → MkS f := by
  intro n
  induction n with
  | zero => intro f hf; omega
  | succ n ih =>
    intro f hf w v bs k how hnd hk1 hk2
    obtain ⟨a, cap, rfl, hlc, hcm, hs⟩ := how
    have hfl : f.len ≤ maxLen := Nat.le_trans hlc hcm
    unfold maxLen at hfl
    rcases hs with ⟨rfl, rfl⟩ | ⟨b, N, bs', rfl, rfl, hfree, hne, hrow⟩
    · change Calls Tryz.prog 36 #[.slice a 0 cap, .int .i64 (k : Int)] w _
      have HLC := hide hlc
      have HCM := hide hcm
      clear hlc hcm hfl hf hnd
      go_enter Tryz.func36, Tryz.ntmps36
      go_wp2_with fail
      go_loopw [1, 5] (fun kv iv wr => kv = .int .i64 (k : Int) ∧ iv = .int .i64 0 ∧ wr = w) (fun _ _ _ => 0)
      case atStart => exact ⟨rfl, rfl, rfl⟩
      case round =>
        obtain ⟨rfl, rfl, rfl⟩ := hrel
        go_wp2_with fail
        go_ret
        exact ⟨rfl, ⟨a, cap, rfl, HLC.out, HCM.out, Or.inl ⟨rfl, rfl⟩⟩, Wr.refl _ _⟩
    · have HF := hide hf
      have HND := hide hnd
      have HROW := hide hrow
      have HFR := hide hfree
      have HNE := hide hne
      have HK2 := hide hk2
      have HLC := hide hlc
      have HCM := hide hcm
      have hbw := hfree.lt
      clear hf hnd hrow hfree hne hk2 hlc hcm
      go_enter Tryz.func36, Tryz.ntmps36
      go_wp2_with fail
      go_loopw [1, 5] (fun kv iv wr => MkRel w b N f bs' k kv iv wr) (fun _ iv _ => f.len - (intOf iv).toNat)
      case atStart => exact ⟨.nil, f, [], bs', rfl, rfl, rfl, rfl, rfl, by rw [show F.nil.len * 5 = 0 from rfl]; exact HROW.out, HFR.out, Wr.refl _ _⟩
      case round =>
        obtain ⟨p, g, b1, b2, hfe, hbe, rfl, rfl, hp, hg, hfree, hw⟩ := hrel
        have HE := hide hfe
        have HBE := hide hbe
        have HP := hide hp
        have HW := hide hw
        have hbr := hfree.lt
        clear hfe hbe hp hw
        cases g with
        | nil =>
          have hge : f.len ≤ p.len := by rw [HE.out, F.app_nil]; exact Nat.le_refl _
          have HG := hide hg
          clear hg
          go_wp2_with fail
          go_ret
          have h1 := HE.out
          rw [F.app_nil] at h1
          have h2 : b2 = [] := HG.out
          have h3 := HBE.out
          rw [h2, List.append_nil] at h3
          refine ⟨ret_int (by rw [h1]), ⟨some ⟨b, 0, none⟩, cap, by rw [mkF_len], by rw [mkF_len]; exact HLC.out, HCM.out, Or.inr ⟨b, N, bs', rfl, rfl, hfree, fun h => HNE.out (mkF_nil k h), ?_⟩⟩, ?_⟩
          · rw [h1, h3]
            exact HP.out
          · rw [h3]
            exact HW.out
        | cons lab kd fr ix kids rest =>
          have hlt : p.len < f.len := by rw [HE.out, F.len_app]; simp only [F.len]; omega
          have hkk : 1 ≤ k + 4 * p.sz ∧ k + 4 * p.sz + 4 + 4 * kids.sz ≤ 16777216 := by
            have := HK2.out
            rw [HE.out, F.sz_app] at this
            simp only [F.sz] at this
            omega
          obtain ⟨hka, hkb⟩ := hkk
          have HZ : Hid (kids.sz < n) := by have := HF.out; unfold Hid; rw [HE.out, F.sz_app] at this; simp only [F.sz] at this; omega
          obtain ⟨-, -, -, -, c0, c1, c2, c3, ks, rs, hb2e, ⟨a5, cap5, c5, l1, l2, l3⟩, hrest⟩ := hg
          have HB2 := hide hb2e
          have HL : Hid (Ow wr (.slice a5 kids.len cap5) kids ks) := ⟨a5, cap5, rfl, l1, l2, l3⟩
          have HR := hide hrest
          have C5 := hide c5
          have hN := Free.lt_cell hfree c5
          clear hb2e l3 hrest l1 l2
          generalize hK : k + 4 * p.sz = K at *
          have HK := hide hK
          clear hK
          go_wp2_with fail
          refine (mt_int K (by omega) (by omega) _).mono ?_
          rintro e w1 ⟨rfl, hb1⟩
          rw [show ((K : Int)).toNat = K from by omega]
          have f1 := hfree.below hb1
          have z1 : ∀ o, w1.frozen? ⟨b, o, none⟩ = false := fun o => f1.frozen
          obtain ⟨x0, d0⟩ := f1.cell (o := p.len * 5) (by omega)
          obtain ⟨x1, d1⟩ := f1.cell (o := p.len * 5 + 1) (by omega)
          have l1 := f1.lt
          clear c0 c1 c2 c3 c5
          go_wp2_with fail
          refine (mt_int _ (by omega) (by omega) _).mono ?_
          rintro e w2 ⟨rfl, hb2⟩
          rw [show ((K : Int) + 1 + 1).toNat = K + 2 from by omega]
          have f2 := ((f1.setCell ⟨b, p.len * 5, none⟩ (.string (MT K))).setCell ⟨b, p.len * 5 + 1, none⟩ (.int .i64 ((K : Int) + 1))).below hb2
          have z2 : ∀ o, w2.frozen? ⟨b, o, none⟩ = false := fun o => f2.frozen
          obtain ⟨x2, d2⟩ := f2.cell (o := p.len * 5 + 2) (by omega)
          obtain ⟨x3, d3⟩ := f2.cell (o := p.len * 5 + 3) (by omega)
          have l2 := f2.lt
          obtain ⟨M1, M2, M3, M4, M5, M6, M7⟩ := mark_mid (s0 := .string (MT K)) (s1 := .int .i64 ((K : Int) + 1)) (s2 := .string (MT (K + 2))) (s3 := .int .i64 ((K : Int) + 1 + 1 + 1)) hfree C5.out hb1 hb2
          have M9 := (M3 (p.len * 5 + 4) (Or.inr (Nat.le_refl _))).trans C5.out
          have g4 : w2.cell? ⟨b, p.len * 5 + 4, none⟩ = some (.slice a5 kids.len cap5) := by
            have q : ∀ (X : World) (x y : Nat) (u : Value), x ≠ y → (X.setCell ⟨b, x, none⟩ u).cell? ⟨b, y, none⟩ = X.cell? ⟨b, y, none⟩ := fun X x y u h => World.cell?_setCell_other _ _ _ _ (fun e => h (by injection e))
            rw [q _ _ _ _ (by omega), q _ _ _ _ (by omega)] at M9
            exact M9
          have HM := hide (And.intro M1 (And.intro M2 (And.intro M3 (And.intro M4 (And.intro M5 (And.intro M6 M7))))))
          clear d0 d1 z1 M1 M2 M3 M4 M5 M6 M7 M9
          go_wp2_with fail
          obtain ⟨M1, M2, M3, M4, M5, M6, M7⟩ := HM.out
          have hnd := HND.out
          rw [HBE.out, HB2.out] at hnd
          have nbk : ∀ x, x ∈ ks → x ≠ b := fun x hx e => (List.nodup_cons.1 hnd).1 (by rw [← e]; exact List.mem_append_right _ (List.mem_append_left _ hx))
          have hknd : ks.Nodup := (List.nodup_append.1 (List.nodup_append.1 (List.nodup_cons.1 hnd).2).2.1).1
          have hlk := HL.out.lt
          have howC := HL.out.same (fun x hx => M1.block x (hlk x hx) (by simpa using nbk x hx))
          rw [show (K : Int) + 1 + 1 + 1 + 1 = ((K + 4 : Nat) : Int) from by omega]
          refine (ih kids HZ.out _ _ ks (K + 4) howC hknd (by omega) (by omega)).mono ?_
          rintro e w4 ⟨rfl, how4, hw4⟩
          have hstep : MkRel w b N f bs' k (.int .i64 ((K + 4 + 4 * kids.sz : Nat) : Int)) (.int .i64 ((p.len + 1 : Nat) : Int)) w4 := by
            rw [HBE.out, HB2.out, HE.out]
            have hK := HK.out
            subst hK
            have hk3 := HK2.out
            rw [HE.out] at hk3
            exact mark_step hk3 hnd HP.out HR.out hfree HW.out M1 M2 M3 C5.out M4 M5 M6 M7 how4 hw4
          have HST := hide hstep
          clear hstep M1 M2 M3 M4 M5 M6 M7 howC how4 hw4 hnd nbk hknd hlk
          go_wp2_with fail
          refine ⟨?_, by simp [intOf]; omega⟩
          have h := HST.out
          rw [show ((K + 4 + 4 * kids.sz : Nat) : Int) = (K : Int) + 4 + 4 * (kids.sz : Int) from by omega, show ((p.len + 1 : Nat) : Int) = (p.len : Int) + 1 from by omega] at h
          exact h

set_option maxHeartbeats 400000 in
/-- markLocal. -/
theorem mark_calls (f : F) (w : World) (u : Value) (bs : List Nat) (k ix : Int) (fr : ByteArray) (m : Nat) (how : Ow w u f bs) (hnd : bs.Nodup) (hm1 : 1 ≤ m) (hm2 : m + 4 * f.sz ≤ 16777216) :
    Calls Tryz.prog 22 #[.agg #[.int .i64 k, .string fr, .int .i64 ix, u], .int .i64 (m : Int)] w (MkPost f u bs m w) := by
  obtain ⟨ua, uc, rfl⟩ := how.val
  have hb := alloc_below w (.cells #[.int .i64 k, .string fr, .int .i64 ix, .slice ua f.len uc] ( /- t -/ 33))
  have HO := hide (how.same (Same.of_below hb (fun x hx => how.lt x hx)))
  have HL := hide how.lt
  have HND := hide hnd
  have HB := hide hb
  clear how hnd hb
  go_enter Tryz.func22, Tryz.ntmps22
  go_wp2_with fail
  refine (mark_slice_lt _ f (Nat.lt_succ_self _) _ _ bs m HO.out HND.out hm1 hm2).mono ?_
  rintro e w1 ⟨rfl, how1, hw1⟩
  have HO1 := hide how1
  have HW := hide ((Wr.of_below HB.out).trans hw1)
  clear how1 hw1
  go_wp2_with fail
  go_ret
  exact ⟨rfl, HO1.out, HW.out⟩
end Go.Proofs.YtgcefippeokmcabGreatDoor.Lo

/- heldLocal: at a tree that bears the marks it counts them. -/
namespace Go.Proofs.YtgcefippeokmcabGreatDoor.Lo
open Go.RowKit

def HeS (f : F) : Prop := ∀ (w : World) (v : Value) (k : Nat), Sl w v (mkF f k) → 1 ≤ k → k + 4 * f.sz ≤ 16777216 →
  Calls Tryz.prog 37 #[v, .int .i64 (k : Int)] w fun e w' => e = .returned (.int .i64 ((k + 4 * f.sz : Nat) : Int)) ∧ Below w.heap.size w w'

set_option maxHeartbeats 1000000 in
set_option maxRecDepth 100000 in
theorem held_slice_lt : ∀ (n : Nat) (f : F), f.sz < n → HeS f := by
  intro n
  induction n with
  | zero => intro f hf; omega
  | succ n ih =>
    intro f hf w v k hs hk1 hk2
    obtain ⟨a, cap, rfl, hlen, hat⟩ := hs.at
    rw [mkF_len] at hlen ⊢
    unfold maxLen at hlen
    have HA := hide hat
    have HF := hide hf
    have HK2 := hide hk2
    clear hs hat hf hk2
    go_enter Tryz.func37, Tryz.ntmps37
    go_wp2_with fail
    go_loopw [1, 5] (fun kv iv wr => ∃ (g : F) (j kc : Nat), j + g.len = f.len ∧ kv = .int .i64 (kc : Int) ∧ iv = .int .i64 (j : Int) ∧ g.sz ≤ f.sz ∧ kc + 4 * g.sz = k + 4 * f.sz ∧ 1 ≤ kc ∧ At w a j (mkF g kc) ∧ Below w.heap.size w wr) (fun _ iv _ => f.len - (intOf iv).toNat)
    case atStart => exact ⟨f, 0, k, by omega, rfl, rfl, Nat.le_refl _, rfl, hk1, HA.out, Below.refl _ _⟩
    case round =>
      obtain ⟨g, j, kc, hj, rfl, rfl, h5, hsum, hkc, hg, hb⟩ := hrel
      have HS := hide hsum
      cases g with
      | nil =>
        have H5 : Hid (j = f.len) := by unfold Hid; simpa [F.len] using hj
        have hge : f.len ≤ j := Nat.le_of_eq H5.out.symm
        clear hj hsum
        go_wp2_with fail
        go_ret
        refine ⟨ret_int ?_, hb⟩
        have := HS.out
        simp only [F.sz] at this
        omega
      | cons lab kd fr ix kids rest =>
        have HJ : Hid (j + 1 + rest.len = f.len) := by unfold Hid; simp only [F.len] at hj; omega
        have hlt : j < f.len := by have := HJ.out; omega
        have hz : kids.sz < n ∧ rest.sz ≤ f.sz ∧ kc + 4 + 4 * kids.sz + 4 * rest.sz = k + 4 * f.sz := by have := HF.out; simp only [F.sz] at h5 hsum; omega
        have HZ := hide hz
        have hkb : kc + 4 + 4 * kids.sz ≤ 16777216 := by have := HK2.out; omega
        have hkb5 : kc + 4 ≤ 16777216 := by omega
        have hg2 : At w a j (.cons (MT kc) (((kc + 1 : Nat) : Int)) (MT (kc + 2)) (((kc + 3 : Nat) : Int)) (mkF kids (kc + 4)) (mkF rest (kc + 4 + 4 * kids.sz))) := hg
        obtain ⟨b, o, rfl, -, -, -, -, c0, c1, c2, c3, ⟨sv, c4, hsv⟩, -⟩ := (hg2.still (Still.of_below hb)).head
        rw [show ((kc + 1 : Nat) : Int) = (kc : Int) + 1 from by omega] at c1
        rw [show ((kc + 3 : Nat) : Int) = (kc : Int) + 1 + 1 + 1 from by omega] at c3
        have HSV := hide hsv
        have HRE := hide hg2.tail
        clear hj h5 hsum hz hg hg2 hsv
        go_wp2_with fail
        go_region_held3 (fun w' => w'.cell? ⟨b, o + j * 5, none⟩ = some (.string (MT kc)))
          (first | exact c0 | exact d0)
          ((first | (go_at_call 47; refine (mt_int _ (by omega) (by omega) _).mono ?_; (rintro e w1 ⟨rfl, hb1⟩); (rw [show ((kc : Int)).toNat = kc from by omega]); (have d0 := (Still.of_below hb1) _ _ c0))))
        have hbb1 : Below w.heap.size w w1 := hb.drew.trans (hb1.mono hb.size)
        have st1 : Still wr w1 := fun p v h => Still.of_below hb1 p v h
        have e1 := st1 _ _ c1
        have e2 := st1 _ _ c2
        have e3 := st1 _ _ c3
        have e4 := st1 _ _ c4
        have HSV1 := hide (HSV.out.still st1)
        clear c0 c1 c2 c3 c4 d0 st1 hb1 hb HSV
        go_wp2_with fail
        go_region_held3 (fun w' => w'.cell? ⟨b, o + j * 5 + 1 + 1, none⟩ = some (.string (MT (kc + 2))))
          (first | exact e2 | exact d2)
          ((first | (go_at_call 47; refine (mt_int _ (by omega) (by omega) _).mono ?_; (rintro e w2 ⟨rfl, hb2⟩); (rw [show ((kc : Int) + 1 + 1).toNat = kc + 2 from by omega]); (have d2 := (Still.of_below hb2) _ _ e2))))
        have hbb3 : Below w.heap.size w w2 := hbb1.drew.trans (hb2.mono hbb1.size)
        have st2 : Still w1 w2 := fun p v h => Still.of_below hb2 p v h
        have g3 := st2 _ _ e3
        have g4 := st2 _ _ e4
        have HSV3 := hide (HSV1.out.still st2)
        clear e1 e2 e3 e4 d2 st2 hb2 hbb1 HSV1
        go_wp2_with fail
        rw [show (kc : Int) + 1 + 1 + 1 + 1 = ((kc + 4 : Nat) : Int) from by omega]
        refine (ih kids HZ.out.1 _ _ (kc + 4) HSV3.out (by omega) (by omega)).mono ?_
        rintro e w4 ⟨rfl, hb4⟩
        have hbb4 : Below w.heap.size w w4 := hbb3.trans (hb4.mono hbb3.size)
        clear hb4 hbb3 HSV3
        generalize hQ : kc + 4 + 4 * kids.sz = Q at *
        have HQ := hide hQ
        clear hQ
        go_wp2_with fail
        refine ⟨⟨rest, j + 1, Q, by have := HJ.out; omega, rfl, by go_num, HZ.out.2.1, ?_, by have := HQ.out; omega, HRE.out, hbb4⟩, by simp [intOf]; omega⟩
        have h1 := HZ.out.2.2
        have h2 := HQ.out
        omega

set_option maxHeartbeats 400000 in
/-- heldLocal. -/
theorem held_calls (f : F) (w : World) (u : Value) (k ix : Int) (fr : ByteArray) (m : Nat) (hs : Sl w u (mkF f m)) (hm1 : 1 ≤ m) (hm2 : m + 4 * f.sz ≤ 16777216) :
    Calls Tryz.prog 23 #[.agg #[.int .i64 k, .string fr, .int .i64 ix, u], .int .i64 (m : Int)] w fun e w' => e = .returned (.int .i64 ((m + 4 * f.sz : Nat) : Int)) ∧ Below w.heap.size w w' := by
  have hb := alloc_below w (.cells #[.int .i64 k, .string fr, .int .i64 ix, u] ( /- t -/ 33))
  have HS := hide (hs.still (Still.of_below hb))
  clear hs
  go_enter Tryz.func23, Tryz.ntmps23
  go_wp2_with fail
  refine (held_slice_lt _ f (Nat.lt_succ_self _) _ _ m HS.out hm1 hm2).mono ?_
  rintro e w1 ⟨rfl, hb1⟩
  have hb2 := hb.trans (hb1.mono hb.size)
  clear hb hb1
  go_wp2_with fail
  go_ret
  exact ⟨ret_int (by omega), hb2⟩
end Go.Proofs.YtgcefippeokmcabGreatDoor.Lo

/- markMonitor, heldMonitor. -/
namespace Go.Proofs.YtgcefippeokmcabGreatDoor.Lo
open Go.RowKit

set_option maxHeartbeats 400000 in
theorem mark_mon (f : F) (w : World) (u : Value) (bs : List Nat) (ro : ByteArray) (k ix : Int) (fr : ByteArray) (m : Nat) (how : Ow w u f bs) (hnd : bs.Nodup) (hm1 : 1 ≤ m) (hm2 : m + 4 * f.sz ≤ 16777216) :
    Calls Tryz.prog 11 #[.agg #[.string ro, .int .i64 k, .string fr, .int .i64 ix, u], .int .i64 (m : Int)] w (MkPost f u bs m w) := by
  have hb := alloc_below w (.cells #[.string ro, .int .i64 k, .string fr, .int .i64 ix, u] ( /- t -/ 35))
  have HB := hide hb
  have HO := hide (how.same (Same.of_below hb how.lt))
  clear hb how
  go_enter Tryz.func11, Tryz.ntmps11
  go_wp2_with fail
  refine (mark_calls f _ u bs k ix fr m HO.out hnd hm1 hm2).mono ?_
  rintro e w1 ⟨rfl, ho, hw⟩
  have HO1 := hide ho
  have HW := hide ((Wr.of_below HB.out).trans hw)
  clear ho hw
  go_wp2_with fail
  go_ret
  exact ⟨rfl, HO1.out, HW.out⟩

set_option maxHeartbeats 400000 in
theorem held_mon (f : F) (w : World) (u : Value) (ro : ByteArray) (k ix : Int) (fr : ByteArray) (m : Nat) (hs : Sl w u (mkF f m)) (hm1 : 1 ≤ m) (hm2 : m + 4 * f.sz ≤ 16777216) :
    Calls Tryz.prog 12 #[.agg #[.string ro, .int .i64 k, .string fr, .int .i64 ix, u], .int .i64 (m : Int)] w fun e w' => e = .returned (.int .i64 ((m + 4 * f.sz : Nat) : Int)) ∧ Below w.heap.size w w' := by
  have hb := alloc_below w (.cells #[.string ro, .int .i64 k, .string fr, .int .i64 ix, u] ( /- t -/ 35))
  have HB := hide hb
  have HS := hide (hs.still (Still.of_below hb))
  clear hb hs
  go_enter Tryz.func12, Tryz.ntmps12
  go_wp2_with fail
  refine (held_calls f _ u k ix fr m HS.out hm1 hm2).mono ?_
  rintro e w1 ⟨rfl, hb⟩
  have HB1 := hide (HB.out.trans (hb.mono HB.out.size))
  obtain ⟨K, hK, hK0⟩ : ∃ K : Int, K = ((m + 4 * f.sz : Nat) : Int) ∧ 0 ≤ K := ⟨_, rfl, by omega⟩
  have HK := hide hK
  rw [← hK]
  clear hb hK
  go_wp2_with fail
  go_ret
  exact ⟨by rw [← HK.out]; rfl, HB1.out⟩
end Go.Proofs.YtgcefippeokmcabGreatDoor.Lo

/- eqLocal: two values that read alike are equal. -/
namespace Go.Proofs.YtgcefippeokmcabGreatDoor.Lo
open Go.RowKit

def EqS (f : F) : Prop := ∀ (w : World) (u v : Value), Sl w u f → Sl w v f → Calls Tryz.prog 35 #[u, v] w fun e w' => e = .returned (.bool true) ∧ Below w.heap.size w w'

set_option maxHeartbeats 400000 in
theorem eq_node (kids : F) (hk : EqS kids) (w : World) (k ix : Int) (fr : ByteArray) (su sv : Value) (hu : Sl w su kids) (hv : Sl w sv kids) :
    Calls Tryz.prog 21 #[.agg #[.int .i64 k, .string fr, .int .i64 ix, su], .agg #[.int .i64 k, .string fr, .int .i64 ix, sv]] w
      fun e w' => e = .returned (.bool true) ∧ Below w.heap.size w w' := by
  have HU := hide hu
  have HV := hide hv
  clear hu hv
  go_enter Tryz.func21, Tryz.ntmps21
  go_wp2_with fail
  have hB := (alloc_below w (.cells #[.int .i64 k, .string fr, .int .i64 ix, su] ( /- t -/ 33))).alloc (by simp) (.cells #[.int .i64 k, .string fr, .int .i64 ix, sv] ( /- t -/ 33))
  refine (hk _ _ _ (HU.out.still (Still.of_below hB)) (HV.out.still (Still.of_below hB))).mono ?_
  rintro e w1 ⟨rfl, hb⟩
  have hb2 := hB.trans (hb.mono (by simp; omega))
  clear hB hb
  go_wp2_with fail
  go_ret
  exact ⟨rfl, hb2⟩

set_option maxHeartbeats 400000 in
theorem eq_branch (kids : F) (hk : EqS kids) (w : World) (lab : ByteArray) (k ix : Int) (fr : ByteArray) (su sv : Value) (hu : Sl w su kids) (hv : Sl w sv kids) :
    Calls Tryz.prog 46 #[.agg #[.string lab, .int .i64 k, .string fr, .int .i64 ix, su], .agg #[.string lab, .int .i64 k, .string fr, .int .i64 ix, sv]] w
      fun e w' => e = .returned (.bool true) ∧ Below w.heap.size w w' := by
  have HU := hide hu
  have HV := hide hv
  clear hu hv
  go_enter Tryz.func46, Tryz.ntmps46
  go_wp2_with fail
  have hB := (alloc_below w (.cells #[.string lab, .int .i64 k, .string fr, .int .i64 ix, su] ( /- t -/ 67))).alloc (by simp) (.cells #[.string lab, .int .i64 k, .string fr, .int .i64 ix, sv] ( /- t -/ 67))
  refine (eq_node kids hk _ k ix fr _ _ (HU.out.still (Still.of_below hB)) (HV.out.still (Still.of_below hB))).mono ?_
  rintro e w1 ⟨rfl, hb⟩
  have hb2 := hB.trans (hb.mono (by simp; omega))
  clear hB hb
  go_wp2_with fail
  go_ret
  exact ⟨rfl, hb2⟩

set_option maxHeartbeats 800000 in
set_option maxRecDepth 100000 in
theorem eq_slice_lt : ∀ (n : Nat) (f : F), f.sz < n → EqS f := by
  intro n
  induction n with
  | zero => intro f hf; omega
  | succ n ih => 
    intro f hf w u v hu hv
    obtain ⟨a, cap, rfl, hlen, hat⟩ := hu.at
    obtain ⟨a', cap', rfl, _, hat'⟩ := hv.at
    have HA := hide hat
    have HA' := hide hat'
    have HF := hide hf
    clear hu hv hat hat' hf
    unfold maxLen at hlen
    go_enter Tryz.func35, Tryz.ntmps35
    go_wp2_with fail
    go_loopw [5] (fun iv wr => ∃ (g : F) (k : Nat), k + g.len = f.len ∧ iv = .int .i64 k ∧ g.sz ≤ f.sz ∧ At w a k g ∧ At w a' k g ∧ Below w.heap.size w wr) (fun iv _ => f.len - (intOf iv).toNat)
    case atStart => exact ⟨f, 0, by omega, rfl, Nat.le_refl _, HA.out, HA'.out, Below.refl _ _⟩
    case round =>
      obtain ⟨g, k, hk, rfl, h5, h6, h7, hb⟩ := hrel
      cases g with
      | nil =>
        have H5 : Hid (k = f.len) := by unfold Hid; simpa [F.len] using hk
        have hge : f.len ≤ k := Nat.le_of_eq H5.out.symm
        clear hk
        go_wp2_with fail
        go_ret
        exact ⟨rfl, hb⟩
      | cons lab kd fr ix kids rest =>
        have HK : Hid (k + 1 + rest.len = f.len) := by unfold Hid; simp only [F.len] at hk; omega
        have hlt : k < f.len := by have := HK.out; omega
        have hz : kids.sz < n ∧ rest.sz ≤ f.sz := by have := HF.out; simp only [F.sz] at h5; omega
        have HZ := hide hz
        obtain ⟨b, o, rfl, l1, l2, _, _, c0, c1, c2, c3, ⟨su, c4, hsu⟩, _⟩ := (h6.still (Still.of_below hb)).head
        obtain ⟨b', o', rfl, _, _, _, _, d0, d1, d2, d3, ⟨sv, d4, hsv⟩, _⟩ := (h7.still (Still.of_below hb)).head
        have HSU := hide hsu
        have HSV := hide hsv
        have HRE := hide h6.tail
        have HRE' := hide h7.tail
        clear hk h5 h6 h7 hz hsu hsv
        go_wp2_with fail
        go_still_tail 8, (by kernel_rfl)
        change wpList _ _ _ _ _ wr.drew
        have hbd : Below w.heap.size w wr.drew := hb.drew
        have hst : Still wr wr.drew := fun _ _ h => h
        have HSU' := hide (HSU.out.still hst)
        have HSV' := hide (HSV.out.still hst)
        clear hst
        generalize wr.drew = w2 at *
        go_wp2_with fail
        refine (eq_branch kids (ih kids HZ.out.1) _ lab kd ix fr su sv HSU'.out HSV'.out).mono ?_
        rintro e w1 ⟨rfl, hb1⟩
        have hb2 : Below w.heap.size w w1 := hbd.trans (hb1.mono hbd.size)
        go_wp2_with fail
        go_roundw
        case rel => exact ⟨rest, k + 1, by have := HK.out; omega, by go_num, HZ.out.2, HRE.out, HRE'.out, hb2⟩
        case measure => simp [intOf]; omega

/-- eqLocal at two values that read alike. -/
theorem eq_calls (kids : F) (w : World) (k ix : Int) (fr : ByteArray) (su sv : Value) (hu : Sl w su kids) (hv : Sl w sv kids) :
    Calls Tryz.prog 21 #[.agg #[.int .i64 k, .string fr, .int .i64 ix, su], .agg #[.int .i64 k, .string fr, .int .i64 ix, sv]] w
      fun e w' => e = .returned (.bool true) ∧ Below w.heap.size w w' :=
  eq_node kids (eq_slice_lt _ kids (Nat.lt_succ_self _)) w k ix fr su sv hu hv

end Go.Proofs.YtgcefippeokmcabGreatDoor.Lo

/- eqMonitor. -/
namespace Go.Proofs.YtgcefippeokmcabGreatDoor.Lo.Ne
open Go.RowKit

set_option maxHeartbeats 400000 in
theorem eq_mon (kids : F) (w : World) (lab : ByteArray) (k ix : Int) (fr : ByteArray) (su sv : Value) (hu : Sl w su kids) (hv : Sl w sv kids) :
    Calls Tryz.prog 10 #[.agg #[.string lab, .int .i64 k, .string fr, .int .i64 ix, su], .agg #[.string lab, .int .i64 k, .string fr, .int .i64 ix, sv]] w
      fun e w' => e = .returned (.bool true) ∧ Below w.heap.size w w' := by
  have HU := hide hu
  have HV := hide hv
  clear hu hv
  go_enter Tryz.func10, Tryz.ntmps10
  go_wp2_with fail
  have hB := (alloc_below w (.cells #[.string lab, .int .i64 k, .string fr, .int .i64 ix, su] ( /- t -/ 35))).alloc (by simp) (.cells #[.string lab, .int .i64 k, .string fr, .int .i64 ix, sv] ( /- t -/ 35))
  refine (eq_calls kids _ k ix fr _ _ (HU.out.still (Still.of_below hB)) (HV.out.still (Still.of_below hB))).mono ?_
  rintro e w1 ⟨rfl, hb⟩
  have hb2 := hB.trans (hb.mono (by simp; omega))
  clear hB hb
  go_wp2_with fail
  go_ret
  exact ⟨rfl, hb2⟩

end Go.Proofs.YtgcefippeokmcabGreatDoor.Lo.Ne
