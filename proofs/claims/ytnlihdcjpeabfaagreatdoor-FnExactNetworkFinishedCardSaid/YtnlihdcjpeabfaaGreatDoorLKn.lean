/- unlinkNode of the program: what it owes, and the values of the written tree. -/
import Derived.Test.YtnlihdcjpeabfaaGreatDoorLKe
import Derived.Test.YtnlihdcjpeabfaaGreatDoorLKi
import Derived.Test.YtnlihdcjpeabfaaGreatDoorLGr
import Derived.Test.YtnlihdcjpeabfaaGreatDoorLTo
namespace Go.Proofs.YtnlihdcjpeabfaaGreatDoor.Lo
open Go.RowKit

theorem Box4.only {w w' : World} {b c : Nat} {v0 v1 v2 v3 : Value} (h : Box4 w b v0 v1 v2 v3) (ho : Only c w w') (hb : b ≠ c) : Box4 w' b v0 v1 v2 v3 := h.same (ho.block _ h.lt hb)
theorem Gr.only {w w' : World} {base c : Nat} {v : Value} {f : F} {bs : List Nat} (h : Gr w base v f bs) (ho : Only c w w') (hc : c < base) : Gr w' base v f bs :=
  h.same (fun b hb => ho.block b (h.lt b hb) (by have := h.ge b hb; omega))
theorem Pt.only {w w' : World} {c : Nat} {a : Int} (hc : Ctr w c a) (ho : Only c w w') {v : Value} {ps : List Nat} (h : Pt w v ps) : Pt w' v ps := by
  rcases h with h | ⟨b, cap, cs, h1, h2, h3, h4, h5, h6⟩
  · exact Or.inl h
  · refine Or.inr ⟨b, cap, cs, h1, h2, h3, h4, ?_, h6⟩
    have hne : b ≠ c := by
      rintro rfl
      obtain ⟨t, hh⟩ := hc
      rw [h5] at hh
      injection hh with hh
      injection hh with hh
      cases ps with
      | nil => exact absurd rfl h1
      | cons l ps =>
        have := h6 0 l rfl
        rw [hh] at this
        simp at this
    rw [ho.block b (Array.getElem?_eq_some_iff.1 h5).1 hne]
    exact h5

/-- What unlinkNode owes: the tree in new memory and its nodes counted, if it keeps the limits; else nothing. -/
def CpPost (c : Nat) (N : Nd) (d : Int) (a : Nat) (w : World) (e : Ending) (w' : World) : Prop :=
  ∃ a' : Nat, Only c w w' ∧ Ctr w' c a' ∧
    ((a + (N.kids.sz + 1) ≤ 400 ∧ d + (hF N.kids : Int) ≤ 40 ∧ a' = a + (N.kids.sz + 1) ∧ ∃ u bs, e = .returned (.tuple #[.agg #[.int .i64 N.k, .string N.fr, .int .i64 N.ix, u], .bool true]) ∧ Ow w' u N.kids bs ∧ (∀ b, b ∈ bs → w.heap.size ≤ b) ∧ bs.Nodup) ∨
     (¬ (a + (N.kids.sz + 1) ≤ 400 ∧ d + (hF N.kids : Int) ≤ 40) ∧ e = .returned (.tuple #[.agg #[.int .i64 0, .string ⟨#[]⟩, .int .i64 0, .slice none 0 0], .bool false])))

theorem CpPost.no {c : Nat} {N : Nd} {d : Int} {a a' : Nat} {w w' : World} (ho : Only c w w') (hc : Ctr w' c a') (h : ¬ (a + (N.kids.sz + 1) ≤ 400 ∧ d + (hF N.kids : Int) ≤ 40)) :
    CpPost c N d a w (.returned (.tuple #[.agg #[.int .i64 0, .string ⟨#[]⟩, .int .i64 0, .slice none 0 0], .bool false])) w' := ⟨a', ho, hc, Or.inr ⟨h, rfl⟩⟩
theorem CpPost.yes {c : Nat} {N : Nd} {d : Int} {a a' : Nat} {w w' : World} {u : Value} {bs : List Nat} (ho : Only c w w') (hc : Ctr w' c a') (h1 : a + (N.kids.sz + 1) ≤ 400) (h2 : d + (hF N.kids : Int) ≤ 40) (h3 : a' = a + (N.kids.sz + 1))
    (how : Ow w' u N.kids bs) (hge : ∀ b, b ∈ bs → w.heap.size ≤ b) (hnd : bs.Nodup) {k ix : Int} {fr : ByteArray} (hk : k = N.k) (hf : fr = N.fr) (hi : ix = N.ix) :
    CpPost c N d a w (.returned (.tuple #[.agg #[.int .i64 k, .string fr, .int .i64 ix, u], .bool true])) w' :=
  ⟨a', ho, hc, Or.inl ⟨h1, h2, h3, u, bs, by rw [hk, hf, hi], how, hge, hnd⟩⟩
/-- The same from a later world on. -/
theorem CpPost.later {c : Nat} {N : Nd} {d : Int} {a : Nat} {w0 w : World} {e : Ending} {w' : World} (h : CpPost c N d a w e w') (hb : Only c w0 w) : CpPost c N d a w0 e w' := by
  obtain ⟨a', ho, hc, h⟩ := h
  refine ⟨a', hb.trans ho, hc, ?_⟩
  rcases h with ⟨h1, h2, h3, u, bs, h4, h5, h6, h7⟩ | h
  · exact Or.inl ⟨h1, h2, h3, u, bs, h4, h5, fun b hm => Nat.le_trans hb.size (h6 b hm), h7⟩
  · exact Or.inr h

def UnAt (q n : Nat) : Prop := ∀ (w0 w : World) (c a : Nat) (dp un k ix : Int) (fr : ByteArray) (v lv : Value) (kids : F) (es : List (Nat × Nd)) (m : Nat) (ks : List Nat), kids.sz < n → es.length = q + m →
  LkN w0 k fr ix kids (blks es) v ks → EnvL w0 es → wN ⟨k, fr, ix, kids⟩ (es.length : Int) 0 = true → Below w0.heap.size w0 w → w0.heap.size ≤ c → Ctr w c a → a ≤ 400 → 1 ≤ dp → dp ≤ 41 → (m : Int) + 1 ≤ dp → 0 ≤ un → un + 1 ≤ dp → q ≤ 1000 →
  Pt w lv (blks (es.take m)) →
  Calls Tryz.prog 73 #[v, .agg #[.int .i64 dp, lv, .int .i64 un], .pointer (some ⟨c, 0, none⟩)] w (CpPost c (cpN (lenv m es) ⟨k, fr, ix, kids⟩) dp a w)

/-! ### The values -/
/-- A branch in its place. -/
theorem kid_act {k ix : Int} {fr : ByteArray} {kids : F} {b : Int} (hw : wN ⟨k, fr, ix, kids⟩ b 0 = true) (hk : k = 2 ∨ k = 3) {p rest : F} {lab : ByteArray} {kd ix' : Int} {fr' : ByteArray} {kids' : F}
    (he : kids = p.app (.cons lab kd fr' ix' kids' rest)) : wN ⟨kd, fr', ix', kids'⟩ b 0 = true := by
  unfold wN at hw
  simp only [Bool.and_eq_true] at hw
  obtain ⟨h1, h2⟩ := hw
  rw [if_neg (by omega), if_neg (by omega), if_pos hk, he, wF_app] at h2
  simp only [wF, Bool.and_eq_true] at h2
  unfold wN
  simp only [Bool.and_eq_true]
  exact h2.2.1
/-- A label of an action is one letter. -/
theorem lab_act {k ix : Int} {fr : ByteArray} {kids : F} {b : Int} (hw : wN ⟨k, fr, ix, kids⟩ b 0 = true) (hk : k = 2 ∨ k = 3) {p rest : F} {lab : ByteArray} {kd ix' : Int} {fr' : ByteArray} {kids' : F}
    (he : kids = p.app (.cons lab kd fr' ix' kids' rest)) : lab.size = 1 := by
  unfold wN at hw
  simp only [Bool.and_eq_true] at hw
  obtain ⟨-, -, h3⟩ := shape_act hk hw.1
  have key : ∀ (p : F) (q : Option ByteArray), ascB q (p.app (.cons lab kd fr' ix' kids' rest)) = true → labB lab = true := by
    intro p
    induction p with
    | nil =>
      intro q h
      simp only [F.app, ascB, Bool.and_eq_true] at h
      exact h.1.1
    | cons l k2 f2 i2 c2 r2 _ ih =>
      intro q h
      simp only [F.app, ascB, Bool.and_eq_true] at h
      exact ih _ h.2
  have h4 : ascB none kids = true := by
    have := h3
    unfold branchesB at this
    simp only [Bool.and_eq_true] at this
    exact this.1
  rw [he] at h4
  exact lab_size (key p none h4)

end Go.Proofs.YtnlihdcjpeabfaaGreatDoor.Lo
