/- StepGlobal: what it gives, and StepGlobal of the model and of the program. -/
import Derived.Test.YtgcefippeokmcaaUw
import Derived.Test.YtgcefippeokmcaaMw
namespace Go.Proofs.Ytgcefippeokmcaa
open Go.RowKit

/-- The first branch with the label. -/
def findF : F → ByteArray → Option Nd
  | .nil, _ => none
  | .cons lab k fr tg ix kids rest, s => if (lab.toList == s.toList) = true then some ⟨k, fr, tg, ix, kids⟩ else findF rest s
def stepO (g : Nd) (s : ByteArray) : Option Nd := if unfOk g then findF (unf g).kids s else none
def stepR (g : Nd) (s : ByteArray) : Nd := (stepO g s).getD zeroNd
def stepOk (g : Nd) (s : ByteArray) : Bool := (stepO g s).isSome

theorem stepO_of {g : Nd} {s : ByteArray} : stepO g s = findF (unfR g).kids s := by
  unfold stepO unfR
  cases unfOk g <;> rfl

theorem unfN_k : ∀ (n : Nat) (s : List (Option Nd)) (N : Nd), wN N (s.length : Int) (s.length : Int) = true → N.kids.sz < n → (unfN n s N).k ≠ 3 ∧ (unfN n s N).k ≠ 4 := by
  intro n
  induction n with
  | zero => intro s N _ h; omega
  | succ n ih =>
    intro s N hw hz
    unfold unfN
    by_cases h3 : N.k = 3
    · obtain ⟨lab, k, fr, tg, ix, kids, e, hw'⟩ := rec_kid hw h3
      rw [if_pos h3, e]
      rw [e] at hz
      simp only [F.sz] at hz
      simp only
      refine ih _ _ ?_ (by simp only; omega)
      rw [show (((some (cpN s N) :: s).length : Nat) : Int) = (s.length : Int) + 1 by simp]
      exact hw'
    · have hv := not_var hw
      rw [if_neg h3, cpN_k hv]
      exact ⟨h3, hv⟩

/-- What follows a valid unfolded type's first message is valid. -/
theorem step_valid {g : Nd} (h : unfOk g = true) {p rest : F} {lab : ByteArray} {k ix : Int} {fr tg : ByteArray} {kids : F} (he : (unf g).kids = p.app (.cons lab k fr tg ix kids rest)) : okN k fr tg ix kids = true := by
  unfold unfOk at h
  simp only [Bool.and_eq_true] at h
  obtain ⟨hw, hh, hz⟩ := okG_w h.2
  obtain ⟨hgw, -, -⟩ := okG_w h.1
  obtain ⟨h3, h4⟩ := unfN_k (g.kids.sz + 1) [] g hgw (Nat.lt_succ_self _)
  have hne : (unf g).kids ≠ .nil := by
    rw [he]
    intro e
    have := congrArg F.len e
    rw [F.len_app] at this
    simp only [F.len] at this
    omega
  have hw2 := hw
  unfold wN at hw2
  simp only [Bool.and_eq_true] at hw2
  obtain ⟨hs, hk⟩ := hw2
  have h2 : (unf g).k = 2 := by
    by_cases h2 : (unf g).k = 2
    · exact h2
    · exact absurd (shape_leaf hs h2 h3) hne
  rw [if_neg (by omega), if_neg (by omega), if_pos h2, he, wF_app] at hk
  simp only [wF, Bool.and_eq_true] at hk
  have hc : wN ⟨k, fr, tg, ix, kids⟩ 0 0 = true := by
    unfold wN
    simp only [Bool.and_eq_true]
    exact hk.2.1
  have := okG_of_w hc
  show okG ⟨k, fr, tg, ix, kids⟩ = true
  rw [this]
  unfold hN at hh ⊢
  rw [he, hF_app] at hh
  rw [he, F.sz_app] at hz
  simp only [hF, F.sz] at hh hz
  rw [decide_eq_true (by simp only; omega), decide_eq_true (by simp only; omega)]
  rfl

/-- One branch of a tree of the call's own. -/
theorem Ow.sub {w : World} {u : Value} {f : F} {bs : List Nat} (h : Ow w u f bs) (hn : bs.Nodup) {p rest : F} {lab : ByteArray} {k ix : Int} {fr tg : ByteArray} {kids : F} (he : f = p.app (.cons lab k fr tg ix kids rest)) :
    ∃ b cap a c ks, u = .slice (some ⟨b, 0, none⟩) f.len cap ∧ w.cell? ⟨b, p.len * 6, none⟩ = some (.string lab) ∧ w.cell? ⟨b, p.len * 6 + 1, none⟩ = some (.int .i64 k) ∧ w.cell? ⟨b, p.len * 6 + 2, none⟩ = some (.string fr) ∧ w.cell? ⟨b, p.len * 6 + 3, none⟩ = some (.string tg) ∧
      w.cell? ⟨b, p.len * 6 + 4, none⟩ = some (.int .i64 ix) ∧ w.cell? ⟨b, p.len * 6 + 5, none⟩ = some (.slice a kids.len c) ∧ Ow w (.slice a kids.len c) kids ks ∧ (∀ x, x ∈ ks → x ∈ bs) ∧ ks.Nodup := by
  obtain ⟨a, cap, rfl, e1, e2, hs⟩ := h
  rcases hs with ⟨hf, _⟩ | ⟨b, n, bs', rfl, rfl, _, _, hr⟩
  · rw [hf] at he
    have := congrArg F.len he
    rw [F.len_app] at this
    simp only [F.len] at this
    omega
  · rw [he] at hr
    obtain ⟨b1, b2, rfl, _, hr2⟩ := hr.split
    obtain ⟨_, _, _, _, _, c0, c1, c2, c3, c4, ks, rs, rfl, ⟨a5, cap5, c5, q1, q2, hsub⟩, _⟩ := hr2
    rw [show 0 + 6 * p.len = p.len * 6 by omega] at c0 c1 c2 c3 c4 c5
    refine ⟨b, cap, a5, cap5, ks, rfl, c0, c1, c2, c3, c4, c5, ⟨a5, cap5, rfl, q1, q2, hsub⟩, fun x hx => by simp [hx], ?_⟩
    have h1 := (List.nodup_cons.1 hn).2
    have h2 := (List.nodup_append.1 h1).2.1
    exact (List.nodup_append.1 h2).1

/-- What stands in memory while the branches are gone through. -/
structure StS (w wr : World) (R : Nd) (u : Value) (bs : List Nat) (X : Nat) : Prop where
  hb : Below w.heap.size w wr
  hz : Box5 wr (w.heap.size + 1) (.int .i64 0) (.string ⟨#[]⟩) (.string ⟨#[]⟩) (.int .i64 0) (.slice none 0 0)
  hx : Box5 wr X (.int .i64 R.k) (.string R.fr) (.string R.tg) (.int .i64 R.ix) u
  ho : Ow wr u R.kids bs
  hl : ∀ b, b ∈ bs → w.heap.size + 1 < b
  hn : bs.Nodup
theorem StS.below {w wr wj : World} {R : Nd} {u : Value} {bs : List Nat} {X : Nat} (h : StS w wr R u bs X) (hb : Below wr.heap.size wr wj) : StS w wj R u bs X :=
  ⟨h.hb.trans (hb.mono h.hb.size), h.hz.below hb, h.hx.below hb, h.ho.same (Same.of_below hb h.ho.lt), h.hl, h.hn⟩

theorem MadeR.sub {w wr : World} {R N : Nd} {u v : Value} {bs ks : List Nat} {X : Nat} (h : StS w wr R u bs X) (ho : Ow wr v N.kids ks) (hk : ∀ x, x ∈ ks → x ∈ bs) (hn : ks.Nodup) (v0 v1 v2 v3 v4 : Value) :
    MadeR N true w (.returned (.tuple #[.agg #[.int .i64 N.k, .string N.fr, .string N.tg, .int .i64 N.ix, v], .bool true])) (((((wr.setCell ⟨w.heap.size + 1, 0, none⟩ v0).setCell ⟨w.heap.size + 1, 1, none⟩ v1).setCell ⟨w.heap.size + 1, 2, none⟩ v2).setCell ⟨w.heap.size + 1, 3, none⟩ v3).setCell ⟨w.heap.size + 1, 4, none⟩ v4) := by
  have q : ∀ b, b ∈ ks → b ≠ w.heap.size + 1 := fun b hb => by have := h.hl b (hk b hb); omega
  refine ⟨v, ks, rfl, ho.same ?_, fun b hb => by have := h.hl b (hk b hb); omega, hn, ?_⟩
  · exact (((((Same.refl _ _).setCell q _).setCell q _).setCell q _).setCell q _).setCell q _
  · exact ((((h.hb.setCell (by simp) _).setCell (by simp) _).setCell (by simp) _).setCell (by simp) _).setCell (by simp) _

theorem MadeR.below {R : Nd} {ok : Bool} {w w' w'' : World} {e : Ending} (h : MadeR R ok w e w') (hb : Below w'.heap.size w' w'') : MadeR R ok w e w'' := by
  obtain ⟨u, bs, h1, h2, h3, h4, h5⟩ := h
  exact ⟨u, bs, h1, h2.same (Same.of_below hb h2.lt), h3, h4, h5.trans (hb.mono h5.size)⟩

/-- What holds at each round's head. -/
def StRel (w : World) (R : Nd) (s : ByteArray) (u : Value) (bs : List Nat) (X : Nat) (iv : Value) (wr : World) : Prop :=
  ∃ (p q : F), R.kids = p.app q ∧ iv = .int .i64 (p.len : Nat) ∧ findF R.kids s = findF q s ∧ StS w wr R u bs X
end Go.Proofs.Ytgcefippeokmcaa
