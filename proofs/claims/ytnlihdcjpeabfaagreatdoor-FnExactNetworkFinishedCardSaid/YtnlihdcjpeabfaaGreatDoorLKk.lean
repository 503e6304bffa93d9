/- unlinkNode of the program: what stands in memory around a child's writing. -/
import Derived.Test.YtnlihdcjpeabfaaGreatDoorLKm
import Derived.Deep.RegionHeld3
import Derived.Deep.RegionWith
namespace Go.Proofs.YtnlihdcjpeabfaaGreatDoor.Lo
open Go.RowKit

/-- What unlinkNode gives, in one form. -/
theorem CpPost.form {c : Nat} {N : Nd} {d : Int} {a : Nat} {w : World} {e : Ending} {w' : World} (h : CpPost c N d a w e w') :
    ∃ (k ix : Int) (fr : ByteArray) (ua : Option Addr) (ul uc : Nat) (ok : Bool) (a' : Nat), e = .returned (.tuple #[.agg #[.int .i64 k, .string fr, .int .i64 ix, .slice ua ul uc], .bool ok]) ∧ Only c w w' ∧ Ctr w' c a' ∧
      ((ok = true ∧ k = N.k ∧ fr = N.fr ∧ ix = N.ix ∧ a + (N.kids.sz + 1) ≤ 400 ∧ d + (hF N.kids : Int) ≤ 40 ∧ a' = a + (N.kids.sz + 1) ∧ ∃ bs, Ow w' (.slice ua ul uc) N.kids bs ∧ (∀ b, b ∈ bs → w.heap.size ≤ b) ∧ bs.Nodup) ∨
       (ok = false ∧ ¬ (a + (N.kids.sz + 1) ≤ 400 ∧ d + (hF N.kids : Int) ≤ 40))) := by
  obtain ⟨a', ho, hc, h⟩ := h
  rcases h with ⟨h1, h2, h3, u, bs, rfl, how, hge, hnd⟩ | ⟨h, rfl⟩
  · obtain ⟨ua, uc, rfl⟩ := how.val
    exact ⟨_, _, _, ua, _, uc, true, a', rfl, ho, hc, Or.inl ⟨rfl, rfl, rfl, rfl, h1, h2, h3, bs, how, hge, hnd⟩⟩
  · exact ⟨_, _, _, none, 0, 0, false, a', rfl, ho, hc, Or.inr ⟨rfl, h⟩⟩

theorem loop_blk {w0 : World} {fr : ByteArray} {ix : Int} {kids : F} {ps ks : List Nat} {L : Nat} (h : LkN w0 4 fr ix kids ps (.iface ( /- t -/ 116) (.pointer (some ⟨L, 0, none⟩))) ks) : ∃ cs, Blk w0 L cs := by
  rcases h with ⟨h, -⟩ | ⟨h, -⟩ | ⟨-, L', s, u, ks', h3, hb, -⟩ | ⟨h, -⟩
  · omega
  · omega
  · injection h3 with _ h3
    injection h3 with h3
    injection h3 with h3
    injection h3 with h3
    subst h3
    exact ⟨_, hb⟩
  · omega

/-- The scope is another one. -/
theorem UnSt.jump {w wd : World} {c a : Nat} {dp un : Int} {sv : Value} (h : UnSt w wd c a dp un sv) (hcl : c < w.heap.size) (un' : Int) (sv' : Value) :
    UnSt w (((wd.setCell ⟨w.heap.size, 0, none⟩ (.int .i64 dp)).setCell ⟨w.heap.size, 1, none⟩ sv').setCell ⟨w.heap.size, 2, none⟩ (.int .i64 un')).drew c a dp un' sv' := by
  have h1 : Blk (((wd.setCell ⟨w.heap.size, 0, none⟩ (.int .i64 dp)).setCell ⟨w.heap.size, 1, none⟩ sv').setCell ⟨w.heap.size, 2, none⟩ (.int .i64 un')) w.heap.size #[.int .i64 dp, sv', .int .i64 un'] := ((h.hs.set 0 _).set 1 _).set 2 _
  have hne : c ≠ w.heap.size := by omega
  exact ⟨h1, ((h.hz.setOther (by simp) _).setOther (by simp) _).setOther (by simp) _, ((h.hc.setOther hne _).setOther hne _).setOther hne _,
    (((h.ho.setCell (Or.inr (Nat.le_refl _)) _).setCell (Or.inr (Nat.le_refl _)) _).setCell (Or.inr (Nat.le_refl _)) _).drew⟩

/-- What a child's writing leaves: its box, its flag. -/
def KidRel (w w4 : World) (c a : Nat) (dp un : Int) (sv : Value) (N : Nd) (d : Int) (xv okv : Value) : Prop :=
  ∃ (X : Nat) (k ix : Int) (fr : ByteArray) (ua : Option Addr) (ul uc : Nat) (ok : Bool) (a' : Nat), xv = .pointer (some ⟨X, 0, none⟩) ∧ okv = .bool ok ∧ Box4 w4 X (.int .i64 k) (.string fr) (.int .i64 ix) (.slice ua ul uc) ∧ w.heap.size + 1 < X ∧ UnSt w w4 c a' dp un sv ∧
    ((ok = true ∧ k = N.k ∧ fr = N.fr ∧ ix = N.ix ∧ a + (N.kids.sz + 1) ≤ 400 ∧ d + (hF N.kids : Int) ≤ 40 ∧ a' = a + (N.kids.sz + 1) ∧ ∃ bs, Ow w4 (.slice ua ul uc) N.kids bs ∧ (∀ b, b ∈ bs → w.heap.size + 1 < b) ∧ bs.Nodup) ∨
     (ok = false ∧ ¬ (a + (N.kids.sz + 1) ≤ 400 ∧ d + (hF N.kids : Int) ≤ 40)))

theorem KidRel.mk {w0 w W3 wY w6 w4 : World} {c a1 a' X : Nat} {dp un : Int} {sv : Value} {N : Nd} {d : Int} (hst : UnSt w W3 c a1 dp un sv) (hcl : c < w.heap.size) (h0 : Below w0.heap.size w0 W3) (hc0 : w0.heap.size ≤ c) (h35 : Below W3.heap.size W3 wY) (ho6 : Only c wY w6) (hc6 : Ctr w6 c a')
    (hX : W3.heap.size ≤ X) (h64 : Only X w6 w4) {k ix : Int} {fr : ByteArray} {ua : Option Addr} {ul uc : Nat} {ok : Bool} (hbox : Box4 w4 X (.int .i64 k) (.string fr) (.int .i64 ix) (.slice ua ul uc)) (hXb : X < wY.heap.size ∨ w6.heap.size ≤ X)
    (hcase : (ok = true ∧ k = N.k ∧ fr = N.fr ∧ ix = N.ix ∧ a1 + (N.kids.sz + 1) ≤ 400 ∧ d + (hF N.kids : Int) ≤ 40 ∧ a' = a1 + (N.kids.sz + 1) ∧ ∃ bs, Ow w6 (.slice ua ul uc) N.kids bs ∧ (∀ b, b ∈ bs → wY.heap.size ≤ b) ∧ bs.Nodup) ∨
       (ok = false ∧ ¬ (a1 + (N.kids.sz + 1) ≤ 400 ∧ d + (hF N.kids : Int) ≤ 40))) : KidRel w w4 c a1 dp un sv N d (.pointer (some ⟨X, 0, none⟩)) (.bool ok) ∧ Below w0.heap.size w0 w4 := by
  have h1 := hst.hz.lt
  have h2 := h35.size
  have h3 := hst.below h35
  have h4 := h3.only hcl ho6 hc6
  have hne : ∀ b, b < W3.heap.size → b ≠ X := fun b hb e => by omega
  have hz4 := h4.hz.lt
  have h5 : UnSt w w4 c a' dp un sv := by
    refine ⟨h4.hs.same (h64.block _ (by omega) (hne _ (by omega))), h4.hz.same (h64.block _ (by omega) (hne _ (by omega))), h4.hc.same (h64.block _ h4.hc.lt (hne _ (by omega))), ?_⟩
    refine ⟨h64.os.trans h4.ho.os, h64.tape.trans h4.ho.tape, h64.output.trans h4.ho.output, Nat.le_trans h4.ho.size h64.size, fun b hb hc => ?_⟩
    exact (h64.block b (Nat.lt_of_lt_of_le hb h4.ho.size) (hne b (by omega))).trans (h4.ho.block b hb hc)
  have h6 := h0.size
  have h7 := ho6.size
  refine ⟨⟨X, k, ix, fr, ua, ul, uc, ok, a', rfl, rfl, hbox, by omega, h5, ?_⟩, ((h0.trans (h35.mono h6)).trans (ho6.to_below hc0 (by omega))).trans (h64.to_below (by omega) (by omega))⟩
  rcases hcase with ⟨q1, q2, q3, q4, q5, q6, q7, bs, how, hge, hnd⟩ | h
  · refine Or.inl ⟨q1, q2, q3, q4, q5, q6, q7, bs, how.same (fun b hb => h64.block b (how.lt b hb) ?_), fun b hb => by have := hge b hb; omega, hnd⟩
    have := hge b hb
    have := how.lt b hb
    omega
  · exact Or.inr h

theorem only_box (X : Nat) (w : World) (v0 v1 v2 v3 : Value) : Only X w ((((w.setCell ⟨X, 0, none⟩ v0).setCell ⟨X, 1, none⟩ v1).setCell ⟨X, 2, none⟩ v2).setCell ⟨X, 3, none⟩ v3) :=
  ((((Only.refl X w).setCell (p := ⟨X, 0, none⟩) (Or.inl rfl) v0).setCell (p := ⟨X, 1, none⟩) (Or.inl rfl) v1).setCell (p := ⟨X, 2, none⟩) (Or.inl rfl) v2).setCell (p := ⟨X, 3, none⟩) (Or.inl rfl) v3

/-- A row of one branch. -/
theorem one_row {w : World} {u : Value} {kids : F} {ks : List Nat} (how : Ow w u kids ks) {lab fr : ByteArray} {k ix : Int} (hl : lab.size ≤ maxLen) (hf : fr.size ≤ maxLen) (hk : (Lit.int .i64 k).wf = true) (hi : (Lit.int .i64 ix).wf = true) (t : TypeId) :
    Ow (w.alloc (.cells #[.string lab, .int .i64 k, .string fr, .int .i64 ix, u] t)) (.slice (some ⟨w.heap.size, 0, none⟩) 1 1) (.cons lab k fr ix kids .nil) (w.heap.size :: ks) := by
  have hal := alloc_last w #[.string lab, .int .i64 k, .string fr, .int .i64 ix, u] t
  have h2 := how.same (Same.of_below (alloc_below w (.cells #[.string lab, .int .i64 k, .string fr, .int .i64 ix, u] t)) how.lt)
  obtain ⟨ua, uc, rfl, e1, e2, hkk⟩ := h2
  refine ⟨some ⟨w.heap.size, 0, none⟩, 1, rfl, Nat.le_refl _, by unfold maxLen; omega, Or.inr ⟨w.heap.size, 5, ks, rfl, rfl, ⟨_, t, hal, rfl⟩, by simp, ?_⟩⟩
  exact ⟨hl, hf, hk, hi, cell_of_heap (o := 0) hal, cell_of_heap (o := 1) hal, cell_of_heap (o := 2) hal, cell_of_heap (o := 3) hal, ks, [], by simp, ⟨ua, uc, cell_of_heap (o := 4) hal, e1, e2, hkk⟩, rfl⟩

/-- How the walk comes to a recursion. -/
def AtLoop (w0 w : World) (L : Nat) (v lv lv' : Value) (un un' : Int) (m : Nat) (pv : Option Addr) (bb : Bool) : Prop :=
  (bb = false ∧ pv = none ∧ v = .iface ( /- t -/ 116) (.pointer (some ⟨L, 0, none⟩)) ∧ lv = lv' ∧ un = un') ∨
  (bb = true ∧ pv = some ⟨L, 0, none⟩ ∧ v = .iface ( /- t -/ 120) (.agg #[.pointer (some ⟨L, 0, none⟩)]) ∧ lv' = .slice none 0 0 ∧ un' = 0 ∧ m = 0 ∧ ∃ ps, Pt w lv ps ∧ L ∉ ps ∧ ps.length ≤ 41 ∧ ∀ x, x ∈ ps → ∃ cs, Blk w0 x cs)
end Go.Proofs.YtnlihdcjpeabfaaGreatDoor.Lo
