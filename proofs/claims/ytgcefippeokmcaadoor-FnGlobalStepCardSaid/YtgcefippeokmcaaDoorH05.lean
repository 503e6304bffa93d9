/- Pg, Du, Kp, Rl, Rt -/
import Derived.Test.YtgcefippeokmcaaDoorH02
import Derived.Test.YtgcefippeokmcaaDoorH04
import Derived.Laws.Bits64
import Derived.Test.YtgcefippeokmcaaDoorH00
import Derived.Shelf.Strings.BuilderK
import Derived.Lib.BufferKept
import Derived.Lib.OthersKept
/- l1Parse of the model: some tree in memory of its own, whatever the text. -/
namespace Go.Proofs.YtgcefippeokmcaaDoor
open Go.RowKit

/-- Some tree in new memory, and a place behind it or none. -/
def WkP (s : ByteArray) (p : Nat) (w : World) (e : Ending) (w' : World) : Prop :=
  ∃ (N : Nd) (u : Value) (bs : List Nat) (nx : Int), e = .returned (.tuple #[.agg #[.int .i64 N.k, .string N.fr, .string N.tg, .int .i64 N.ix, u], .int .i64 nx]) ∧ Ow w' u N.kids bs ∧ (∀ b, b ∈ bs → w.heap.size ≤ b) ∧ bs.Nodup ∧ Below w.heap.size w w' ∧ Fit N ∧
    ((nx = -1 ∧ N.kids.sz + p ≤ s.size) ∨ ∃ q : Nat, nx = (q : Int) ∧ p < q ∧ q ≤ s.size ∧ N.kids.sz + p + 1 ≤ q)
def WkAt (s : ByteArray) (d : Nat) : Prop := ∀ (w : World) (p : Nat), p ≤ s.size → Calls Tryd.prog 99 #[.string s, .int .i64 (p : Nat), .int .i64 (d : Nat)] w (WkP s p w)

theorem wk_leaf {s : ByteArray} {p : Nat} {w w' : World} (k ix : Int) {nx : Int} (hk : (Lit.int .i64 k).wf = true) (hi : (Lit.int .i64 ix).wf = true) (hn : (nx = -1 ∧ p ≤ s.size) ∨ ∃ q : Nat, nx = (q : Int) ∧ p < q ∧ q ≤ s.size) (hb : Below w.heap.size w w') :
    WkP s p w (.returned (.tuple #[.agg #[.int .i64 k, .string ⟨#[]⟩, .string ⟨#[]⟩, .int .i64 ix, .slice none 0 0], .int .i64 nx])) w' := by
  refine ⟨⟨k, ⟨#[]⟩, ⟨#[]⟩, ix, .nil⟩, _, [], nx, rfl, ⟨none, 0, rfl, Nat.le_refl _, Nat.zero_le _, Or.inl ⟨rfl, rfl⟩⟩, fun _ h => absurd h List.not_mem_nil, List.nodup_nil, hb, ⟨Nat.zero_le _, Nat.zero_le _, hk, hi⟩, ?_⟩
  rcases hn with ⟨h1, h2⟩ | ⟨q, h1, h2, h3⟩
  · exact Or.inl ⟨h1, by simp only [F.sz]; omega⟩
  · exact Or.inr ⟨q, h1, h2, h3, by simp only [F.sz]; omega⟩
/-- A result put into its box. -/
theorem wk_fin {s : ByteArray} {p : Nat} {w w2 : World} {N : Nd} {u : Value} {bs : List Nat} {nx : Int} (how : Ow w2 u N.kids bs) (hge : ∀ x, x ∈ bs → w.heap.size < x) (hnd : bs.Nodup) (hb : Below w.heap.size w w2) (hf : Fit N)
    (hn : (nx = -1 ∧ N.kids.sz + p ≤ s.size) ∨ ∃ q : Nat, nx = (q : Int) ∧ p < q ∧ q ≤ s.size ∧ N.kids.sz + p + 1 ≤ q) (v0 v1 v2 v3 v4 : Value) :
    WkP s p w (.returned (.tuple #[.agg #[.int .i64 N.k, .string N.fr, .string N.tg, .int .i64 N.ix, u], .int .i64 nx]))
      (((((w2.setCell ⟨w.heap.size, 0, none⟩ v0).setCell ⟨w.heap.size, 1, none⟩ v1).setCell ⟨w.heap.size, 2, none⟩ v2).setCell ⟨w.heap.size, 3, none⟩ v3).setCell ⟨w.heap.size, 4, none⟩ v4) := by
  have hne : ∀ x, x ≠ w.heap.size → (((((w2.setCell ⟨w.heap.size, 0, none⟩ v0).setCell ⟨w.heap.size, 1, none⟩ v1).setCell ⟨w.heap.size, 2, none⟩ v2).setCell ⟨w.heap.size, 3, none⟩ v3).setCell ⟨w.heap.size, 4, none⟩ v4).heap[x]? = w2.heap[x]? := fun x hx =>
    (Below.heap_setCell _ _ _ _ hx).trans ((Below.heap_setCell _ _ _ _ hx).trans ((Below.heap_setCell _ _ _ _ hx).trans ((Below.heap_setCell _ _ _ _ hx).trans (Below.heap_setCell _ _ _ _ hx))))
  exact ⟨N, u, bs, nx, rfl, how.same (fun x hx => hne x (by have := hge x hx; omega)), fun x hx => Nat.le_of_lt (hge x hx), hnd, ((((hb.setCell (Nat.le_refl _) _).setCell (Nat.le_refl _) _).setCell (Nat.le_refl _) _).setCell (Nat.le_refl _) _).setCell (Nat.le_refl _) _, hf, hn⟩
theorem ext_size (s : ByteArray) (a b : Nat) (h : b ≤ a + 1) : (s.extract a b).size ≤ maxLen := by
  have : (s.extract a b).size ≤ 1 := by
    rw [ByteArray.size_extract]
    omega
  unfold maxLen
  omega

set_option maxHeartbeats 1600000 in
set_option maxRecDepth 100000 in
theorem wk_zero (s : ByteArray) (w : World) (p : Nat) (hp : p ≤ s.size) : Calls Tryd.prog 99 #[.string s, .int .i64 (p : Nat), .int .i64 0] w (WkP s p w) := by
  go_enter Tryd.func99, Tryd.ntmps99
  go_wp2_with fail
  refine bodyPost_ret (v := .tuple #[.agg #[.int .i64 0, .string ⟨#[]⟩, .string ⟨#[]⟩, .int .i64 0, .slice none 0 0], .int .i64 (-1)]) (by simp [results, Tryd.results99, go_sem, *]) rfl ?_
  exact wk_leaf 0 0 (by decide) (by decide) (Or.inl ⟨rfl, by omega⟩) (alloc_below w _)

/-- What the message's parser owes. -/
def MsAt (s : ByteArray) (d : Nat) : Prop := ∀ (w : World) (p : Nat), p + 2 < s.size → Calls Tryd.prog 134 #[.string s, .int .i64 (p : Nat), .int .i64 ((d : Int) + 1)] w (WkP s p w)

set_option maxHeartbeats 2000000 in
set_option maxRecDepth 100000 in
theorem wk_succ (s : ByteArray) (hs : s.size ≤ 1048576) (d : Nat) (hd : d ≤ 40) (ih : WkAt s d) (hm : MsAt s d) (w : World) (p : Nat) (hp : p ≤ s.size) : Calls Tryd.prog 99 #[.string s, .int .i64 (p : Nat), .int .i64 ((d : Int) + 1)] w (WkP s p w) := by
  have h1 : ¬ (d : Int) + 1 < 1 := by omega
  have hwd : IntKind.i64.wrap (d : Int) = (d : Int) := by simp [IntKind.wrap, IntKind.bits, IntKind.signed]; omega
  have HIH := hide ih
  have HMS := hide hm
  clear ih hm
  by_cases hpe : p = s.size
  · subst hpe
    have hn : ¬ (s.size : Int) < (s.size : Int) := by omega
    go_enter Tryd.func99, Tryd.ntmps99
    go_wp2_with fail
    refine bodyPost_ret (v := .tuple #[.agg #[.int .i64 0, .string ⟨#[]⟩, .string ⟨#[]⟩, .int .i64 0, .slice none 0 0], .int .i64 (-1)]) (by simp [results, Tryd.results99, go_sem, *]) rfl ?_
    exact wk_leaf 0 0 (by decide) (by decide) (Or.inl ⟨rfl, by omega⟩) (alloc_below w _)
  have hin : p < s.size := by omega
  have hlt : (p : Int) < (s.size : Int) := by omega
  have hnle : ¬ (s.size : Int) ≤ (p : Int) := by omega
  by_cases c46 : ((s[p]'hin).toNat : Int) = 46
  · go_enter Tryd.func99, Tryd.ntmps99
    go_wp2_with fail
    refine bodyPost_ret (v := .tuple #[.agg #[.int .i64 1, .string ⟨#[]⟩, .string ⟨#[]⟩, .int .i64 0, .slice none 0 0], .int .i64 ((p + 1 : Nat) : Int)]) (by simp [results, Tryd.results99, go_sem, *]) rfl ?_
    exact wk_leaf 1 0 (by decide) (by decide) (Or.inr ⟨p + 1, rfl, by omega, by omega⟩) (alloc_below w _)
  have n46 : (((s[p]'hin).toNat : Int) == 46) = false := beq_eq_false_iff_ne.2 c46
  by_cases c35 : ((s[p]'hin).toNat : Int) = 35 ∧ p + 1 < s.size
  · obtain ⟨c35, hp1⟩ := c35
    have hp1i : (p : Int) + 1 < (s.size : Int) := by omega
    have hc256 := (s[p + 1]'hp1).toNat_lt
    have hwf : (Lit.int .i64 (((s[p + 1]'hp1).toNat : Int) - 48)).wf = true := by simp [Lit.wf, IntKind.min, IntKind.max, IntKind.bits, IntKind.signed]; omega
    have HWF := hide hwf
    clear hwf
    go_enter Tryd.func99, Tryd.ntmps99
    go_wp2_with fail
    refine bodyPost_ret (v := .tuple #[.agg #[.int .i64 4, .string ⟨#[]⟩, .string ⟨#[]⟩, .int .i64 (((s[p + 1]'hp1).toNat : Int) - 48), .slice none 0 0], .int .i64 ((p + 2 : Nat) : Int)]) (by simp [results, Tryd.results99, go_sem, *]) rfl ?_
    exact wk_leaf 4 _ (by decide) HWF.out (Or.inr ⟨p + 2, rfl, by omega, by omega⟩) (alloc_below w _)
  by_cases c64 : ((s[p]'hin).toNat : Int) = 64
  · have n35 : (((s[p]'hin).toNat : Int) == 35) = false := beq_eq_false_iff_ne.2 (by omega)
    have m35 : ((s[p]'hin).toNat : Int) ≠ 35 := by omega
    go_enter Tryd.func99, Tryd.ntmps99
    go_wp2_with fail
    have hx := Box5.now w (.int .i64 0) (.string ⟨#[]⟩) (.string ⟨#[]⟩) (.int .i64 0) (.slice none 0 0) ( /- t -/ 39)
    have hb1 := alloc_below w (.cells #[.int .i64 0, .string ⟨#[]⟩, .string ⟨#[]⟩, .int .i64 0, .slice none 0 0] ( /- t -/ 39))
    have hw1 : w.heap.size < (w.alloc (.cells #[.int .i64 0, .string ⟨#[]⟩, .string ⟨#[]⟩, .int .i64 0, .slice none 0 0] ( /- t -/ 39))).heap.size := by simp
    generalize w.alloc (.cells #[.int .i64 0, .string ⟨#[]⟩, .string ⟨#[]⟩, .int .i64 0, .slice none 0 0] ( /- t -/ 39)) = W at *
    rw [show (p : Int) + 1 = ((p + 1 : Nat) : Int) by omega]
    refine (HIH.out W (p + 1) (by omega)).mono ?_
    rintro e w4 ⟨N, u, bs, nx, rfl, how, hge, hnd, hb4, hf, hn⟩
    obtain ⟨ua, uc, rfl⟩ := how.val
    have HX4 := hide (hx.below hb4)
    obtain ⟨y0, y1, y2, y3, y4⟩ := HX4.out.cells
    have hfz := HX4.out.frozen
    have hl := HX4.out.lt
    have HB4 := hide (hb1.trans (hb4.mono hb1.size))
    have hs4 := hb4.size
    have HOW := hide how
    have HGE : Hid (∀ x, x ∈ bs → w.heap.size < x) := hide (fun x hx => by have := hge x hx; omega)
    have HND := hide hnd
    have HF := hide hf
    have HN := hide hn
    clear hx hb1 how hge hnd hf hn hb4
    go_wp2_with fail
    refine bodyPost_ret (v := .tuple #[.agg #[.int .i64 3, .string ⟨#[]⟩, .string ⟨#[]⟩, .int .i64 0, .slice (some ⟨w4.heap.size + 1, 0, none⟩) 1 1], .int .i64 nx]) (by simp [results, Tryd.results99, go_sem, *]) rfl ?_
    rw [set5_alloc _ _ _ _ _ _ _ _ hl, set5_alloc _ _ _ _ _ _ _ _ (by simp; omega)]
    have how1 := ow_one (w := w4.alloc (.cells #[.int .i64 N.k, .string N.fr, .string N.tg, .int .i64 N.ix, .slice ua N.kids.len uc] ( /- t -/ 39))) (lab := ⟨#[]⟩) (Nat.zero_le _) HF.out (HOW.out.same (Same.of_below (alloc_below w4 _) HOW.out.lt)) ( /- t -/ 54)
    rw [show (w4.alloc (.cells #[.int .i64 N.k, .string N.fr, .string N.tg, .int .i64 N.ix, .slice ua N.kids.len uc] ( /- t -/ 39))).heap.size = w4.heap.size + 1 by simp] at how1
    refine wk_fin (N := ⟨3, ⟨#[]⟩, ⟨#[]⟩, 0, .cons ⟨#[]⟩ N.k N.fr N.tg N.ix N.kids .nil⟩) how1 (fun x hx => ?_) ?_ ((HB4.out.alloc (by omega) _).alloc (by simp; omega) _) ⟨Nat.zero_le _, Nat.zero_le _, show (Lit.int .i64 3).wf = true by decide, show (Lit.int .i64 0).wf = true by decide⟩ ?_ _ _ _ _ _
    · rcases List.mem_cons.1 hx with rfl | hx
      · omega
      · exact HGE.out x hx
    · exact List.nodup_cons.2 ⟨fun hm => by have := HOW.out.lt _ hm; omega, HND.out⟩
    · rcases HN.out with ⟨e1, e2⟩ | ⟨q, e1, e2, e3, e4⟩
      · exact Or.inl ⟨e1, by simp only [F.sz]; omega⟩
      · exact Or.inr ⟨q, e1, by omega, e3, by simp only [F.sz]; omega⟩
  have n64 : (((s[p]'hin).toNat : Int) == 64) = false := beq_eq_false_iff_ne.2 c64
  have hms : ∀ (hh : p + 2 < s.size), (((s[p + 2]'hh).toNat : Int) = 123) → Calls Tryd.prog 99 #[.string s, .int .i64 (p : Nat), .int .i64 ((d : Int) + 1)] w (WkP s p w) := by
    intro hp2 c123
    have hp2i : (p : Int) + 2 < (s.size : Int) := by omega
    have m35 : ((s[p]'hin).toNat : Int) ≠ 35 := fun h => c35 ⟨h, by omega⟩
    have n35 : (((s[p]'hin).toNat : Int) == 35) = false := beq_eq_false_iff_ne.2 m35
    clear c35
    go_enter Tryd.func99, Tryd.ntmps99
    go_wp2_with fail
    have hx := Box5.now w (.int .i64 0) (.string ⟨#[]⟩) (.string ⟨#[]⟩) (.int .i64 0) (.slice none 0 0) ( /- t -/ 39)
    have hb1 := alloc_below w (.cells #[.int .i64 0, .string ⟨#[]⟩, .string ⟨#[]⟩, .int .i64 0, .slice none 0 0] ( /- t -/ 39))
    have hw1 : w.heap.size < (w.alloc (.cells #[.int .i64 0, .string ⟨#[]⟩, .string ⟨#[]⟩, .int .i64 0, .slice none 0 0] ( /- t -/ 39))).heap.size := by simp
    generalize w.alloc (.cells #[.int .i64 0, .string ⟨#[]⟩, .string ⟨#[]⟩, .int .i64 0, .slice none 0 0] ( /- t -/ 39)) = W at *
    refine (HMS.out W p hp2).mono ?_
    rintro e w4 ⟨N, u, bs, nx, rfl, how, hge, hnd, hb4, hf, hn⟩
    obtain ⟨ua, uc, rfl⟩ := how.val
    have HX4 := hide (hx.below hb4)
    obtain ⟨y0, y1, y2, y3, y4⟩ := HX4.out.cells
    have hfz := HX4.out.frozen
    have hl := HX4.out.lt
    have HB4 := hide (hb1.trans (hb4.mono hb1.size))
    have HOW := hide how
    have HGE : Hid (∀ x, x ∈ bs → w.heap.size < x) := hide (fun x hx => by have := hge x hx; omega)
    have HND := hide hnd
    have HF := hide hf
    have HN := hide hn
    clear hx hb1 how hge hnd hf hn hb4
    go_wp2_with fail
    refine bodyPost_ret (v := .tuple #[.agg #[.int .i64 N.k, .string N.fr, .string N.tg, .int .i64 N.ix, .slice ua N.kids.len uc], .int .i64 nx]) (by simp [results, Tryd.results99, go_sem, *]) rfl ?_
    exact wk_fin HOW.out HGE.out HND.out HB4.out HF.out HN.out _ _ _ _ _
  by_cases hp2 : p + 2 < s.size
  · by_cases c123 : ((s[p + 2]'hp2).toNat : Int) = 123
    · exact hms hp2 c123
    · have hp2i : (p : Int) + 2 < (s.size : Int) := by omega
      have n123 : (((s[p + 2]'hp2).toNat : Int) == 123) = false := beq_eq_false_iff_ne.2 c123
      have m35 : ((s[p]'hin).toNat : Int) ≠ 35 := fun h => c35 ⟨h, by omega⟩
      have n35 : (((s[p]'hin).toNat : Int) == 35) = false := beq_eq_false_iff_ne.2 m35
      clear c35 hms
      go_enter Tryd.func99, Tryd.ntmps99
      go_wp2_with fail
      refine bodyPost_ret (v := .tuple #[.agg #[.int .i64 0, .string ⟨#[]⟩, .string ⟨#[]⟩, .int .i64 0, .slice none 0 0], .int .i64 (-1)]) (by simp [results, Tryd.results99, go_sem, *]) rfl ?_
      exact wk_leaf 0 0 (by decide) (by decide) (Or.inl ⟨rfl, by omega⟩) (alloc_below w _)
  · have hp2i : ¬ (p : Int) + 2 < (s.size : Int) := by omega
    by_cases e35 : ((s[p]'hin).toNat : Int) = 35
    · have hp1i : ¬ (p : Int) + 1 < (s.size : Int) := fun h => c35 ⟨e35, by omega⟩
      clear c35 hms
      go_enter Tryd.func99, Tryd.ntmps99
      go_wp2_with fail
      refine bodyPost_ret (v := .tuple #[.agg #[.int .i64 0, .string ⟨#[]⟩, .string ⟨#[]⟩, .int .i64 0, .slice none 0 0], .int .i64 (-1)]) (by simp [results, Tryd.results99, go_sem, *]) rfl ?_
      exact wk_leaf 0 0 (by decide) (by decide) (Or.inl ⟨rfl, by omega⟩) (alloc_below w _)
    · have n35 : (((s[p]'hin).toNat : Int) == 35) = false := beq_eq_false_iff_ne.2 e35
      clear c35 hms
      go_enter Tryd.func99, Tryd.ntmps99
      go_wp2_with fail
      refine bodyPost_ret (v := .tuple #[.agg #[.int .i64 0, .string ⟨#[]⟩, .string ⟨#[]⟩, .int .i64 0, .slice none 0 0], .int .i64 (-1)]) (by simp [results, Tryd.results99, go_sem, *]) rfl ?_
      exact wk_leaf 0 0 (by decide) (by decide) (Or.inl ⟨rfl, by omega⟩) (alloc_below w _)
end Go.Proofs.YtgcefippeokmcaaDoor

/- l1Mutate of the model: any tree, changed a little. -/
namespace Go.Proofs.YtgcefippeokmcaaDoor
open Go.RowKit

theorem cpz_sz (Z : Nd) (hZ : Z.kids = .nil) : ∀ (f : F) (i : Int), (subF Z f i).sz ≤ f.sz := by
  intro f
  induction f with
  | nil => intro i; exact Nat.le_refl _
  | cons lab k fr tg ix kids rest ihk ihr =>
    intro i
    unfold subF
    split
    · simp only [F.sz, hZ]
      have := ihr i
      omega
    · simp only [F.sz]
      have h1 := ihk (bump k i)
      have h2 := ihr i
      omega
theorem cpz_sm (Z : Nd) (hZ : Z.kids = .nil) (hz : Z.ix = 0) : ∀ (f : F) (i : Int), smF f → smF (subF Z f i) := by
  intro f
  induction f with
  | nil => intro i _; trivial
  | cons lab k fr tg ix kids rest ihk ihr =>
    intro i h
    unfold subF
    split
    · simp only [smF, hZ, hz]
      exact ⟨by omega, trivial, ihr i h.2.2⟩
    · simp only [smF]
      exact ⟨h.1, ihk _ h.2.1, ihr i h.2.2⟩
theorem hF_sz : ∀ f : F, hF f ≤ f.sz
  | .nil => by simp [hF]
  | .cons lab k fr tg ix kids rest => by
    have h1 := hF_sz kids
    have h2 := hF_sz rest
    simp only [hF, F.sz]
    omega
theorem cpzN_sz (g : Nd) : (cpz g).kids.sz ≤ g.kids.sz := by
  unfold cpz subN
  split
  · exact Nat.zero_le _
  · exact cpz_sz _ rfl _ _
theorem cpzN_sm (g : Nd) (h : smF g.kids) : smF (cpz g).kids := by
  unfold cpz subN
  split
  · trivial
  · exact cpz_sm _ rfl rfl _ _ h
theorem cpzN_fit {g : Nd} (h : Fit g) : Fit (cpz g) := subN_fit h ⟨Nat.zero_le _, Nat.zero_le _, show (Lit.int .i64 0).wf = true by decide, show (Lit.int .i64 0).wf = true by decide⟩
theorem St.set {w : World} {rb : Nat} {cv : Value} {l : List Nat} {p : Nat} {W : World} {q : Nat} (h : St w rb cv l p W q) (a : Addr) (v : Value) (ha : w.heap.size < a.block) : St w rb cv l p (W.setCell a v) q := by
  have hl := h.start.lt
  have ho : Only rb w (W.setCell a v) := h.only.setCell (Or.inr (by omega)) v
  exact ⟨h.start, ho, h.start.fin h.rd ho (Below.heap_setCell _ _ _ _ (by omega)), h.box.same (Below.heap_setCell _ _ _ _ (by omega))⟩
theorem St.boxq {w : World} {rb : Nat} {cv : Value} {l : List Nat} {p : Nat} {W : World} {q : Nat} {cs : Array Value} {t : TypeId} (h : St (w.alloc (.cells cs t)) rb cv l p W q) : Box5 W (w.heap.size + 1) (.int .i64 0) (.string ⟨#[]⟩) (.string ⟨#[]⟩) (.int .i64 0) (.slice none 0 0) := by
  have := h.box
  rwa [show (w.alloc (.cells cs t)).heap.size = w.heap.size + 1 by simp] at this
theorem St.drew {w : World} {rb : Nat} {cv : Value} {l : List Nat} {p : Nat} {W : World} {q : Nat} (h : St w rb cv l p W q) : St w rb cv l p W.drew q := h.on (Only.refl _ _).drew h.rd.drew
theorem St.below {w : World} {rb : Nat} {cv : Value} {l : List Nat} {p : Nat} {W W' : World} {q : Nat} (h : St w rb cv l p W q) (hb : Below W.heap.size W W') : St w rb cv l p W' q := h.on ((Only.refl _ _).below hb) (h.rd.below hb)
theorem DrP.back {Q : Nd → Prop} {w w1 : World} {rb : Nat} {cv : Value} {l : List Nat} {p K S : Nat} {e : Ending} {w' : World} {cs : Array Value} (t : TypeId) (hw : w1 = w.alloc (.cells cs t)) (h : DrP Q w1 rb cv l p K S e w') : DrP Q w rb cv l p K S e w' := by
  subst hw
  obtain ⟨N, u, bs, h1, h2, h3⟩ := h
  have hz : w.heap.size ≤ (w.alloc (.cells cs t)).heap.size := by simp
  exact ⟨N, u, bs, h1, h2, h3.own, fun b hb => Nat.le_trans hz (h3.ge b hb), h3.nd, ((Only.refl rb w).alloc _).trans h3.only, h3.rd, h3.fit, h3.sz⟩

set_option maxHeartbeats 4000000 in
set_option maxRecDepth 100000 in
theorem mut_calls (w : World) (rb : Nat) (cv : Value) (l : List Nat) (p : Nat) (h : Rd w rb cv l p) (hp : p + 4 ≤ 1000000) (g : Nd) (sv : Value) (hs : Sl w sv g.kids) (hf : Fit g) (hsz : g.kids.sz ≤ 900) :
    Calls Tryd.prog 89 #[.pointer (some ⟨rb, 0, none⟩), .agg #[.int .i64 g.k, .string g.fr, .string g.tg, .int .i64 g.ix, sv]] w (DrP (fun N => smF g.kids → smF N.kids) w rb cv l p 4 (g.kids.sz + 1)) := by
  have hrb := h.lt
  have HS0 := hide (St.new (h.below (alloc_below w (.cells #[.int .i64 g.k, .string g.fr, .string g.tg, .int .i64 g.ix, sv] ( /- t -/ 39)))) ( /- t -/ 39))
  have HSV := hide hs
  have HF := hide hf
  have HFC := hide (cpzN_fit hf)
  have HCP := hide (fun (w' : World) (hs : Sl w' sv g.kids) => copyg_calls w' g sv hs hf (by have := hF_sz g.kids; omega) ⟨by have := len_sz g.kids; omega, lnF_sz _ (by omega)⟩)
  obtain ⟨i0, hinf, hz0, hz1, hz2⟩ := info_parts Tryd.info54
  have HI := hide (And.intro hinf (And.intro hz0 (And.intro hz1 hz2)))
  clear hinf hz0 hz1 hz2 h hs hf
  go_enter Tryd.func89, Tryd.ntmps89
  go_wp2_with fail
  have HB2 := hide (((alloc_below w (.cells #[.int .i64 g.k, .string g.fr, .string g.tg, .int .i64 g.ix, sv] ( /- t -/ 39)))).alloc (by simp) (.cells #[.int .i64 0, .string ⟨#[]⟩, .string ⟨#[]⟩, .int .i64 0, .slice none 0 0] ( /- t -/ 39)))
  refine (HCP.out _ (HSV.out.still (Still.of_below HB2.out))).mono ?_
  rintro e wc ⟨u, bs, rfl, hgr, hb⟩
  obtain ⟨ua, uc, rfl⟩ := hgr.val
  have hz2 : w.heap.size + 2 ≤ wc.heap.size := by have := hb.size; simpa using this
  have HS1 := hide ((HS0.out.below hb).alloc (.cells #[.int .i64 (cpz g).k, .string (cpz g).fr, .string (cpz g).tg, .int .i64 (cpz g).ix, .slice ua (cpz g).kids.len uc] ( /- t -/ 39)))
  have HO0 := hide (Box5.now wc (.int .i64 (cpz g).k) (.string (cpz g).fr) (.string (cpz g).tg) (.int .i64 (cpz g).ix) (.slice ua (cpz g).kids.len uc) ( /- t -/ 39))
  have HG00 := hide ((hgr.below (alloc_below wc (.cells #[.int .i64 (cpz g).k, .string (cpz g).fr, .string (cpz g).tg, .int .i64 (cpz g).ix, .slice ua (cpz g).kids.len uc] ( /- t -/ 39)))).mono (base' := w.heap.size + 2) (by simp))
  have HGOB : Hid (∀ x, x ∈ bs → x < wc.heap.size) := hide hgr.lt
  have hwv : wc.heap.size < (wc.alloc (.cells #[.int .i64 (cpz g).k, .string (cpz g).fr, .string (cpz g).tg, .int .i64 (cpz g).ix, .slice ua (cpz g).kids.len uc] ( /- t -/ 39))).heap.size := by simp
  clear hgr hb HS0
  go_upto_region 2 with fail
  generalize wc.alloc (.cells #[.int .i64 (cpz g).k, .string (cpz g).fr, .string (cpz g).tg, .int .i64 (cpz g).ix, .slice ua (cpz g).kids.len uc] ( /- t -/ 39)) = V at *
  generalize wc.heap.size = ob at *
  clear wc
  go_wp2_with fail
  refine (pick_calls _ rb cv l _ HS1.out.rd (by omega) 72 (by omega)).mono ?_
  rintro e wp ⟨v, rfl, hv, hask⟩
  have HP := hide (HS1.out.ask hask)
  have HO1 := hide (HO0.out.same (hask.only.block ob (by omega) (by omega)))
  have HG1 := hide (HG00.out.same (hask.only.same (fun x hx => ⟨HG00.out.lt x hx, by have := HG00.out.ge x hx; omega⟩)))
  have hwp : ob < wp.heap.size := HO1.out.lt
  clear hask HS1 HO0 HG00 hv hwv
  by_cases hv0 : v = 0
  · subst hv0
    go_wp2_with fail
    have HA0 := hide (HP.out.alloc (.cells #[.int .i64 0, .int .i64 5, .int .i64 1, .int .i64 2, .int .i64 3, .int .i64 4] ( /- t -/ 3)))
    have HB0 := hide (HO1.out.below (alloc_below wp (.cells #[.int .i64 0, .int .i64 5, .int .i64 1, .int .i64 2, .int .i64 3, .int .i64 4] ( /- t -/ 3))))
    have HG0 := hide (HG1.out.below (alloc_below wp (.cells #[.int .i64 0, .int .i64 5, .int .i64 1, .int .i64 2, .int .i64 3, .int .i64 4] ( /- t -/ 3))))
    refine (num_calls _ rb cv l _ HA0.out.rd (by omega) [0, 5, 1, 2, 3, 4] _ (sl6i wp _ _ _ _ _ _ ( /- t -/ 3)) (by decide) (by decide) (new_far HP.out.rd.lt)).mono ?_
    rintro e wq ⟨nv, hnv, rfl, hask⟩
    have HNW := hide (wf_all hnv (by decide))
    have HQ := hide (HA0.out.ask hask)
    have HOQ := hide (HB0.out.same (hask.only.block ob (by simp; omega) (by omega)))
    have HGQ := hide (HG0.out.same (hask.only.same (fun x hx => ⟨HG0.out.lt x hx, by have := HG0.out.ge x hx; omega⟩)))
    clear hask HA0 HB0 HG0 hnv
    obtain ⟨y0, y1, y2, y3, y4⟩ := HOQ.out.cells
    have fy := HOQ.out.frozen
    have ly := HOQ.out.lt
    obtain ⟨x0, x1, x2, x3, x4⟩ := HQ.out.boxq.cells
    have fx := HQ.out.boxq.frozen
    have lx := HQ.out.boxq.lt
    go_wp2_with fail
    have HR := hide (HQ.out.set ⟨ob, 0, none⟩ (.int .i64 nv) (by simp; omega))
    have HGR := hide (HGQ.out.same (w' := wq.setCell ⟨ob, 0, none⟩ (.int .i64 nv)) (fun x hx => Below.heap_setCell _ _ _ _ (by have := HGOB.out x hx; simp; omega)))
    refine bodyPost_ret (v := .agg #[.int .i64 nv, .string (cpz g).fr, .string (cpz g).tg, .int .i64 (cpz g).ix, .slice ua (cpz g).kids.len uc]) (by simp [results, Tryd.results89, go_sem, *]) rfl ?_
    exact DrP.back (( /- t -/ 39)) rfl ⟨⟨nv, (cpz g).fr, (cpz g).tg, (cpz g).ix, (cpz g).kids⟩, _, _, rfl, fun h => cpzN_sm g h, dr_fin (N := ⟨nv, (cpz g).fr, (cpz g).tg, (cpz g).ix, (cpz g).kids⟩) HR.out.start HR.out.only HR.out.rd (by omega) HGR.out.ow (w.heap.size + 1) (by simp) (fun x hx => by have := HGR.out.ge x hx; omega) HGR.out.nodup ⟨HFC.out.1, HFC.out.2.1, HNW.out, HFC.out.2.2.2⟩ (Nat.le_trans (cpzN_sz g) (Nat.le_succ _)) _ _ _ _ _⟩
  by_cases hv1 : v = 1
  · subst hv1
    go_wp2_with fail
    have HA0 := hide (HP.out.alloc (.cells #[.string ⟨#[]⟩, .string ⟨#[68]⟩, .string ⟨#[66]⟩, .string ⟨#[65]⟩] ( /- t -/ 9)))
    have HB0 := hide (HO1.out.below (alloc_below wp (.cells #[.string ⟨#[]⟩, .string ⟨#[68]⟩, .string ⟨#[66]⟩, .string ⟨#[65]⟩] ( /- t -/ 9))))
    have HG0 := hide (HG1.out.below (alloc_below wp (.cells #[.string ⟨#[]⟩, .string ⟨#[68]⟩, .string ⟨#[66]⟩, .string ⟨#[65]⟩] ( /- t -/ 9))))
    refine (of_calls _ rb cv l _ HA0.out.rd (by omega) [⟨#[]⟩, ⟨#[68]⟩, ⟨#[66]⟩, ⟨#[65]⟩] _ (sl4 wp _ _ _ _ ( /- t -/ 9) (show (0 : Nat) ≤ maxLen by unfold maxLen; omega) (show (1 : Nat) ≤ maxLen by unfold maxLen; omega) (show (1 : Nat) ≤ maxLen by unfold maxLen; omega) (show (1 : Nat) ≤ maxLen by unfold maxLen; omega)) (by decide) (by decide) (new_far HP.out.rd.lt)).mono ?_
    rintro e wq ⟨nv, hnv, rfl, hask⟩
    have HNW := hide (small_all hnv (by decide))
    have HQ := hide (HA0.out.ask hask)
    have HOQ := hide (HB0.out.same (hask.only.block ob (by simp; omega) (by omega)))
    have HGQ := hide (HG0.out.same (hask.only.same (fun x hx => ⟨HG0.out.lt x hx, by have := HG0.out.ge x hx; omega⟩)))
    clear hask HA0 HB0 HG0 hnv
    obtain ⟨y0, y1, y2, y3, y4⟩ := HOQ.out.cells
    have fy := HOQ.out.frozen
    have ly := HOQ.out.lt
    obtain ⟨x0, x1, x2, x3, x4⟩ := HQ.out.boxq.cells
    have fx := HQ.out.boxq.frozen
    have lx := HQ.out.boxq.lt
    go_wp2_with fail
    have HR := hide (HQ.out.set ⟨ob, 1, none⟩ (.string nv) (by simp; omega))
    have HGR := hide (HGQ.out.same (w' := wq.setCell ⟨ob, 1, none⟩ (.string nv)) (fun x hx => Below.heap_setCell _ _ _ _ (by have := HGOB.out x hx; simp; omega)))
    refine bodyPost_ret (v := .agg #[.int .i64 (cpz g).k, .string nv, .string (cpz g).tg, .int .i64 (cpz g).ix, .slice ua (cpz g).kids.len uc]) (by simp [results, Tryd.results89, go_sem, *]) rfl ?_
    exact DrP.back (( /- t -/ 39)) rfl ⟨⟨(cpz g).k, nv, (cpz g).tg, (cpz g).ix, (cpz g).kids⟩, _, _, rfl, fun h => cpzN_sm g h, dr_fin (N := ⟨(cpz g).k, nv, (cpz g).tg, (cpz g).ix, (cpz g).kids⟩) HR.out.start HR.out.only HR.out.rd (by omega) HGR.out.ow (w.heap.size + 1) (by simp) (fun x hx => by have := HGR.out.ge x hx; omega) HGR.out.nodup ⟨HNW.out, HFC.out.2.1, HFC.out.2.2.1, HFC.out.2.2.2⟩ (Nat.le_trans (cpzN_sz g) (Nat.le_succ _)) _ _ _ _ _⟩
  by_cases hv2 : v = 2
  · subst hv2
    go_wp2_with fail
    have HA0 := hide (HP.out.alloc (.cells #[.int .i64 (-1), .int .i64 1, .int .i64 9223372036854775807] ( /- t -/ 3)))
    have HB0 := hide (HO1.out.below (alloc_below wp (.cells #[.int .i64 (-1), .int .i64 1, .int .i64 9223372036854775807] ( /- t -/ 3))))
    have HG0 := hide (HG1.out.below (alloc_below wp (.cells #[.int .i64 (-1), .int .i64 1, .int .i64 9223372036854775807] ( /- t -/ 3))))
    refine (num_calls _ rb cv l _ HA0.out.rd (by omega) [-1, 1, 9223372036854775807] _ (sl3i wp _ _ _ ( /- t -/ 3)) (by decide) (by decide) (new_far HP.out.rd.lt)).mono ?_
    rintro e wq ⟨nv, hnv, rfl, hask⟩
    have HNW := hide (wf_all hnv (by decide))
    have HQ := hide (HA0.out.ask hask)
    have HOQ := hide (HB0.out.same (hask.only.block ob (by simp; omega) (by omega)))
    have HGQ := hide (HG0.out.same (hask.only.same (fun x hx => ⟨HG0.out.lt x hx, by have := HG0.out.ge x hx; omega⟩)))
    clear hask HA0 HB0 HG0 hnv
    obtain ⟨y0, y1, y2, y3, y4⟩ := HOQ.out.cells
    have fy := HOQ.out.frozen
    have ly := HOQ.out.lt
    obtain ⟨x0, x1, x2, x3, x4⟩ := HQ.out.boxq.cells
    have fx := HQ.out.boxq.frozen
    have lx := HQ.out.boxq.lt
    go_wp2_with fail
    have HR := hide (HQ.out.set ⟨ob, 3, none⟩ (.int .i64 nv) (by simp; omega))
    have HGR := hide (HGQ.out.same (w' := wq.setCell ⟨ob, 3, none⟩ (.int .i64 nv)) (fun x hx => Below.heap_setCell _ _ _ _ (by have := HGOB.out x hx; simp; omega)))
    refine bodyPost_ret (v := .agg #[.int .i64 (cpz g).k, .string (cpz g).fr, .string (cpz g).tg, .int .i64 nv, .slice ua (cpz g).kids.len uc]) (by simp [results, Tryd.results89, go_sem, *]) rfl ?_
    exact DrP.back (( /- t -/ 39)) rfl ⟨⟨(cpz g).k, (cpz g).fr, (cpz g).tg, nv, (cpz g).kids⟩, _, _, rfl, fun h => cpzN_sm g h, dr_fin (N := ⟨(cpz g).k, (cpz g).fr, (cpz g).tg, nv, (cpz g).kids⟩) HR.out.start HR.out.only HR.out.rd (by omega) HGR.out.ow (w.heap.size + 1) (by simp) (fun x hx => by have := HGR.out.ge x hx; omega) HGR.out.nodup ⟨HFC.out.1, HFC.out.2.1, HFC.out.2.2.1, HNW.out⟩ (Nat.le_trans (cpzN_sz g) (Nat.le_succ _)) _ _ _ _ _⟩
  by_cases hv3 : v = 3
  · subst hv3
    have y4 := HO1.out.cells.2.2.2.2
    go_wp2_with fail
    refine wp_region_T (fun w' => w'.cell? ⟨ob, 4, none⟩ = some (.slice ua (cpz g).kids.len uc)) 10 (by kernel_rfl) y4 (fun hHeld => ?_)
    refine wpAnyT_take (L := 10) (i := 0) (v := ?v0) rfl (by kernel_rfl) (by kernel_rfl) (by kernel_rfl) (by kernel_rfl) (fun _ _ _ h => h) hHeld (Or.inl ⟨by rfl, ?hy0⟩) ?rest0
    case hy0 => ((intro w' hw'); (try dsimp only at hw'); (go_simp); (try with_reducible rfl))
    (try simp only [Act.put]); (try simp only [List.setIfInBounds_toArray]); (try simp only [List.set_cons_zero]); (try simp only [List.set_cons_succ])
    refine wpAnyT_take (L := 10) (i := 1) (v := ?v1) rfl (by kernel_rfl) (by kernel_rfl) (by kernel_rfl) (by kernel_rfl) (fun _ _ _ h => h) hHeld (Or.inl ⟨by rfl, ?hy1⟩) ?rest1
    case hy1 => ((intro w' hw'); (try dsimp only at hw'); (go_simp); (try with_reducible rfl))
    (try simp only [Act.put]); (try simp only [List.setIfInBounds_toArray]); (try simp only [List.set_cons_zero]); (try simp only [List.set_cons_succ])
    refine wpAnyT_take (L := 10) (i := 2) (v := ?v2) rfl (by kernel_rfl) (by kernel_rfl) (by kernel_rfl) (by kernel_rfl) (fun _ _ _ h => h) hHeld (Or.inl ⟨by rfl, ?hy2⟩) ?rest2
    case hy2 => ((intro w' hw'); (try dsimp only at hw'); (go_simp); (try with_reducible rfl))
    (try simp only [Act.put]); (try simp only [List.setIfInBounds_toArray]); (try simp only [List.set_cons_zero]); (try simp only [List.set_cons_succ])
    refine wpAnyT_take (L := 10) (i := 5) (v := ?v5) rfl (by kernel_rfl) (by kernel_rfl) (by kernel_rfl) (by kernel_rfl) (fun _ _ _ h => h) hHeld (Or.inl ⟨by rfl, ?hy5⟩) ?rest5
    case hy5 => ((intro w' hw'); (try dsimp only at hw'); (go_simp); (try with_reducible rfl))
    (try simp only [Act.put]); (try simp only [List.setIfInBounds_toArray]); (try simp only [List.set_cons_zero]); (try simp only [List.set_cons_succ])
    refine wpAnyT_one (L := 10) (i := 3) (by kernel_rfl) rfl (fun K hK => ?_)
    go_simp
    have HA0 := hide (HP.out.drew.alloc (.cells #[.string ⟨#[97]⟩, .string ⟨#[101]⟩, .string ⟨#[]⟩] ( /- t -/ 9)))
    have HB0 := hide ((HO1.out.same (w' := wp.drew) rfl).below (alloc_below wp.drew (.cells #[.string ⟨#[97]⟩, .string ⟨#[101]⟩, .string ⟨#[]⟩] ( /- t -/ 9))))
    have HG0 := hide ((HG1.out.same (w' := wp.drew) (fun _ _ => rfl)).below (alloc_below wp.drew (.cells #[.string ⟨#[97]⟩, .string ⟨#[101]⟩, .string ⟨#[]⟩] ( /- t -/ 9))))
    have hd3 : (wp.drew.alloc (.cells #[.string ⟨#[97]⟩, .string ⟨#[101]⟩, .string ⟨#[]⟩] ( /- t -/ 9))).cell? ⟨ob, 4, none⟩ = some (.slice ua (cpz g).kids.len uc) := HB0.out.cells.2.2.2.2
    have HD3 := hide hd3
    refine hK.out _ _ (fun _ => HD3.out) ?_
    clear hK K hd3
    (try simp only [Act.put]); (try simp only [List.setIfInBounds_toArray]); (try simp only [List.set_cons_zero]); (try simp only [List.set_cons_succ])
    refine wpAnyT_one (L := 10) (i := 4) (by kernel_rfl) rfl (fun K hK => ?_)
    go_simp
    go_at_call 79
    refine (of_calls _ rb cv l _ HA0.out.rd (by omega) [⟨#[97]⟩, ⟨#[101]⟩, ⟨#[]⟩] _ (gsl3 wp.drew _ _ _ ( /- t -/ 9) (show (1 : Nat) ≤ maxLen by unfold maxLen; omega) (show (1 : Nat) ≤ maxLen by unfold maxLen; omega) (show (0 : Nat) ≤ maxLen by unfold maxLen; omega)) (by decide) (by decide) (new_far (w := wp.drew) HP.out.rd.lt)).mono ?_
    rintro e wq ⟨nv, hnv, rfl, hask⟩
    have HNW := hide (small_all hnv (by decide))
    have HQ := hide (HA0.out.ask hask)
    have HOQ := hide (HB0.out.same (hask.only.block ob (by simp; omega) (by omega)))
    have HGQ := hide (HG0.out.same (hask.only.same (fun x hx => ⟨HG0.out.lt x hx, by have := HG0.out.ge x hx; omega⟩)))
    clear hask HA0 HB0 HG0 hnv
    have hd4 : wq.cell? ⟨ob, 4, none⟩ = some (.slice ua (cpz g).kids.len uc) := HOQ.out.cells.2.2.2.2
    have HD4 := hide hd4
    refine hK.out _ _ (fun _ => HD4.out) ?_
    clear hK K hd4
    refine wpAnyT_take (L := 10) (i := 6) (v := ?v6) rfl (by kernel_rfl) (by kernel_rfl) (by kernel_rfl) (by kernel_rfl) (fun _ _ _ h => h) HD4.out (Or.inl ⟨by rfl, ?hy6⟩) ?rest6
    case hy6 => ((intro w' hw'); (try dsimp only at hw'); (go_simp); (try with_reducible rfl))
    (try simp only [Act.put]); (try simp only [List.setIfInBounds_toArray]); (try simp only [List.set_cons_zero]); (try simp only [List.set_cons_succ])
    refine wpAnyT_one (L := 10) (i := 7) (by kernel_rfl) rfl (fun K hK => ?_)
    go_simp
    have HD5 := hide (Still.of_below (alloc_below wq (.cells #[.string nv, .int .i64 1, .string ⟨#[]⟩, .string ⟨#[]⟩, .int .i64 0, .slice none 0 0] ( /- t -/ 54))) _ _ HD4.out)
    refine hK.out _ _ (fun _ => HD5.out) ?_
    clear hK K
    (try simp only [Act.put]); (try simp only [List.setIfInBounds_toArray]); (try simp only [List.set_cons_zero]); (try simp only [List.set_cons_succ])
    refine wpAnyT_one (L := 10) (i := 8) (by kernel_rfl) rfl (fun K hK => ?_)
    have hgr5 := HGQ.out.below (alloc_below wq (.cells #[.string nv, .int .i64 1, .string ⟨#[]⟩, .string ⟨#[]⟩, .int .i64 0, .slice none 0 0] ( /- t -/ 54)))
    have hwq : ob < wq.heap.size := HOQ.out.lt
    have hln : (cpz g).kids.len ≤ 1000 := Nat.le_trans (len_sz _) (Nat.le_trans (cpzN_sz g) (by omega))
    refine step_append_lies _ (by rfl) _ _ _ (by rfl) (w.heap.size + 2) ( /- t -/ 54) i0 _ 6 88 Tryd.underlying37 HI.out.1 HI.out.2.1 HI.out.2.2.1 HI.out.2.2.2 rfl (by omega) (.slice ua (cpz g).kids.len uc) (cpz g).kids.len (grXs (wq.alloc (.cells #[.string nv, .int .i64 1, .string ⟨#[]⟩, .string ⟨#[]⟩, .int .i64 0, .slice none 0 0] ( /- t -/ 54))) (.slice ua (cpz g).kids.len uc) (cpz g).kids) (by rfl) hgr5.owns
      ⟨wq.heap.size, 0, none⟩ 1 1 [.string nv, .int .i64 1, .string ⟨#[]⟩, .string ⟨#[]⟩, .int .i64 0, .slice none 0 0] (by rfl) (by rfl) (World.news_of_block (cs := #[.string nv, .int .i64 1, .string ⟨#[]⟩, .string ⟨#[]⟩, .int .i64 0, .slice none 0 0]) (t := ( /- t -/ 54)) (fr := (0, 0)) (heap_alloc_new wq _)) (by simp [Value.oneCell'])
      (by omega) (by unfold maxLen; omega) (by omega) (by simp; omega) _ rfl ?_
    intro gg cp w6 hown6 hgrow6 hat6 hlt6
    have hfarb : ∀ b8, b8 < wq.heap.size → b8 ∉ bs → w6.heap[b8]? = wq.heap[b8]? := fun b8 hb8 hn8 => by
      rw [hgrow6.block b8 (by simp; omega) (fun e => hn8 (hgr5.block b8 e.symm)), Below.heap_alloc _ _ _ (by omega)]
    have hobn : ob ∉ bs := fun hm => by have := HGOB.out ob hm; omega
    have HO6 := hide (HOQ.out.same (hfarb ob hwq hobn))
    have HD6 := hide (HO6.out.cells.2.2.2.2)
    refine hK.out _ _ (fun _ => HD6.out) ?_
    clear hK K
    (try simp only [Act.put]); (try simp only [List.setIfInBounds_toArray]); (try simp only [List.set_cons_zero]); (try simp only [List.set_cons_succ])
    refine wpAnyT_take (L := 10) (i := 9) (v := ?v9) rfl (by kernel_rfl) (by kernel_rfl) (by kernel_rfl) (by kernel_rfl) (fun _ _ _ h => h) HD6.out (Or.inl ⟨by rfl, ?hy9⟩) ?rest9
    case hy9 => ((intro w' hw'); (try dsimp only at hw'); (go_simp); (try with_reducible rfl))
    (try simp only [Act.put]); (try simp only [List.setIfInBounds_toArray]); (try simp only [List.set_cons_zero]); (try simp only [List.set_cons_succ])
    have o4 := HO6.out.cells.2.2.2.2
    have fo := HO6.out.frozen
    have lo := HO6.out.lt
    refine wpAnyT_one (L := 10) (i := 10) (by kernel_rfl) rfl (fun K hK => ?_)
    go_simp
    refine hK.out _ _ (fun h => absurd rfl h) ?_
    refine wpAnyT_done (by kernel_rfl) ?_ _
    clear hK K
    have hBS : ∀ x, x < w.heap.size + 2 → x ∉ bs := fun x hx hm => by have := HGQ.out.ge x hm; omega
    have hOw : Only rb (w.alloc (.cells #[.int .i64 g.k, .string g.fr, .string g.tg, .int .i64 g.ix, sv] ( /- t -/ 39))) w6 := by
      have h2 := HQ.out.only.alloc (.cells #[.string nv, .int .i64 1, .string ⟨#[]⟩, .string ⟨#[]⟩, .int .i64 0, .slice none 0 0] ( /- t -/ 54))
      exact ⟨hgrow6.os.trans h2.os, hgrow6.tape.trans h2.tape, hgrow6.output.trans h2.output, Nat.le_trans h2.size hgrow6.size, fun x hx hc => (hgrow6.block x (Nat.lt_of_lt_of_le hx h2.size) (fun e => by
        have h1 := hgr5.ge x (hgr5.block x e.symm)
        simp at hx
        omega)).trans (h2.block x hx hc)⟩
    have HS6 : Hid (St (w.alloc (.cells #[.int .i64 g.k, .string g.fr, .string g.tg, .int .i64 g.ix, sv] ( /- t -/ 39))) rb cv l p w6 (p + 1 + 1)) := hide ⟨HQ.out.start, hOw, HQ.out.start.fin HQ.out.rd hOw (hfarb rb (by have := HQ.out.rd.lt; omega) (hBS rb (by omega))), HQ.out.box.same (hfarb _ HQ.out.box.lt (hBS _ (by simp)))⟩
    obtain ⟨bs', hpush, hpn⟩ := Gr.push hgr5 (lab := nv) (fr := ⟨#[]⟩) (k := 1) (ix := 0) (u := .slice none 0 0) (kids := .nil) (ks := []) ⟨none, 0, rfl, Nat.le_refl _, Nat.zero_le _, Or.inl ⟨rfl, rfl⟩⟩ (fun x hx => absurd hx List.not_mem_nil) List.nodup_nil
      (fun x _ hx => absurd hx List.not_mem_nil) HNW.out (Nat.zero_le _) (Nat.zero_le _) (by decide) (by decide) hown6 hgrow6 (by rcases hat6 with h | h; exact Or.inl h; exact Or.inr h)
    have hbo : ∀ x, x ∈ bs' → x ≠ ob := fun x hx => by
      rcases hpn x hx with h | h | h
      · exact fun e => hobn (e ▸ h)
      · exact absurd h List.not_mem_nil
      · simp at h; omega
    have HGP := hide (hpush.same (w' := w6.setCell ⟨ob, 4, none⟩ (.slice (some ⟨gg, 0, none⟩) ((cpz g).kids.len + 1) cp)) (fun x hx => Below.heap_setCell _ _ _ _ (hbo x hx)))
    have HR := hide (HS6.out.set ⟨ob, 4, none⟩ (.slice (some ⟨gg, 0, none⟩) ((cpz g).kids.len + 1) cp) (by simp; omega))
    obtain ⟨x0, x1, x2, x3, x4⟩ := HR.out.boxq.cells
    have fx := HR.out.boxq.frozen
    have lx := HR.out.boxq.lt
    have HOP := hide (HO6.out.set4 (.slice (some ⟨gg, 0, none⟩) ((cpz g).kids.len + 1) cp))
    obtain ⟨y0, y1, y2, y3, y4⟩ := HOP.out.cells
    have fy := HOP.out.frozen
    have ly := HOP.out.lt
    have HEQ : Hid (((cpz g).kids.app (.cons nv 1 ⟨#[]⟩ ⟨#[]⟩ 0 .nil .nil)).len = (cpz g).kids.len + 1) := hide (by rw [F.len_app]; rfl)
    clear hpush hbo hBS hOw hown6 hgrow6 hat6 hgr5 hfarb hpn o4 fo lo
    generalize w6.setCell ⟨ob, 4, none⟩ (.slice (some ⟨gg, 0, none⟩) ((cpz g).kids.len + 1) cp) = w7 at *
    go_wp2_with fail
    refine bodyPost_ret (v := .agg #[.int .i64 (cpz g).k, .string (cpz g).fr, .string (cpz g).tg, .int .i64 (cpz g).ix, .slice (some ⟨gg, 0, none⟩) ((cpz g).kids.len + 1) cp]) (by simp [results, Tryd.results89, go_sem, *]) rfl ?_
    exact DrP.back (( /- t -/ 39)) rfl ⟨⟨(cpz g).k, (cpz g).fr, (cpz g).tg, (cpz g).ix, ((cpz g).kids.app (.cons nv 1 ⟨#[]⟩ ⟨#[]⟩ 0 .nil .nil))⟩, _, _, rfl, fun h => (smF_app _ _).2 ⟨cpzN_sm g h, ⟨show (0 : Int) ≤ 0 by omega, show (0 : Int) ≤ 9 by omega⟩, trivial, trivial⟩, dr_fin (N := ⟨(cpz g).k, (cpz g).fr, (cpz g).tg, (cpz g).ix, ((cpz g).kids.app (.cons nv 1 ⟨#[]⟩ ⟨#[]⟩ 0 .nil .nil))⟩) HR.out.start HR.out.only HR.out.rd (by omega) HGP.out.ow (w.heap.size + 1) (by simp) (fun x hx => by have := HGP.out.ge x hx; omega) HGP.out.nodup ⟨HFC.out.1, HFC.out.2.1, HFC.out.2.2.1, HFC.out.2.2.2⟩ (by rw [F.sz_app]; have := cpzN_sz g; simp only [F.sz]; omega) _ _ _ _ _⟩
  by_cases hv4 : v = 4
  · subst hv4
    obtain ⟨x0, x1, x2, x3, x4⟩ := HP.out.boxq.cells
    have fx := HP.out.boxq.frozen
    have lx := HP.out.boxq.lt
    go_wp2_with fail
    rw [set5_alloc _ _ _ _ _ _ _ _ lx]
    have HQ := hide (HP.out.alloc (.cells #[.string ⟨#[]⟩, .int .i64 4, .string ⟨#[]⟩, .string ⟨#[]⟩, .int .i64 0, .slice none 0 0] ( /- t -/ 54)))
    have HW := hide (ow_one (w := wp) (lab := ⟨#[]⟩) (Nat.zero_le _) (N := ⟨4, ⟨#[]⟩, ⟨#[]⟩, 0, .nil⟩) ⟨Nat.zero_le _, Nat.zero_le _, show (Lit.int .i64 4).wf = true by decide, show (Lit.int .i64 0).wf = true by decide⟩ (u := .slice none 0 0) (bs := []) ⟨none, 0, rfl, Nat.le_refl _, Nat.zero_le _, Or.inl ⟨rfl, rfl⟩⟩ ( /- t -/ 54))
    refine bodyPost_ret (v := .agg #[.int .i64 3, .string ⟨#[]⟩, .string ⟨#[]⟩, .int .i64 0, .slice (some ⟨wp.heap.size, 0, none⟩) 1 1]) (by simp [results, Tryd.results89, go_sem, *]) rfl ?_
    exact DrP.back (( /- t -/ 39)) rfl ⟨⟨3, ⟨#[]⟩, ⟨#[]⟩, 0, .cons ⟨#[]⟩ 4 ⟨#[]⟩ ⟨#[]⟩ 0 .nil .nil⟩, _, _, rfl, fun _ => ⟨⟨show (0 : Int) ≤ 0 by omega, show (0 : Int) ≤ 9 by omega⟩, trivial, trivial⟩, dr_fin (N := ⟨3, ⟨#[]⟩, ⟨#[]⟩, 0, .cons ⟨#[]⟩ 4 ⟨#[]⟩ ⟨#[]⟩ 0 .nil .nil⟩) HQ.out.start HQ.out.only HQ.out.rd (by omega) HW.out (w.heap.size + 1) (by simp) (fun x hx => by have := HP.out.box.lt; simp at hx this; omega) (by simp) ⟨Nat.zero_le _, Nat.zero_le _, show (Lit.int .i64 3).wf = true by decide, show (Lit.int .i64 0).wf = true by decide⟩ (by simp [F.sz]) _ _ _ _ _⟩
  by_cases hv5 : v = 5
  · subst hv5
    go_wp2_with fail
    refine (pick_calls _ rb cv l _ HP.out.rd (by omega) 2 (by omega)).mono ?_
    rintro e wq ⟨nv, rfl, hnv, hask⟩
    have HQ := hide (HP.out.ask hask)
    clear hask
    have hn9 : (nv : Int) ≤ 9 := by omega
    obtain ⟨x0, x1, x2, x3, x4⟩ := HQ.out.boxq.cells
    have fx := HQ.out.boxq.frozen
    have lx := HQ.out.boxq.lt
    go_wp2_with fail
    refine bodyPost_ret (v := .agg #[.int .i64 4, .string ⟨#[]⟩, .string ⟨#[]⟩, .int .i64 (nv : Int), .slice none 0 0]) (by simp [results, Tryd.results89, go_sem, *]) rfl ?_
    exact DrP.back (( /- t -/ 39)) rfl ⟨⟨4, ⟨#[]⟩, ⟨#[]⟩, (nv : Int), .nil⟩, _, [], rfl, fun _ => trivial, dr_fin (N := ⟨4, ⟨#[]⟩, ⟨#[]⟩, (nv : Int), .nil⟩) HQ.out.start HQ.out.only HQ.out.rd (by omega) ⟨none, 0, rfl, Nat.le_refl _, Nat.zero_le _, Or.inl ⟨rfl, rfl⟩⟩ (w.heap.size + 1) (by simp) (fun x hx => absurd hx List.not_mem_nil) List.nodup_nil ⟨Nat.zero_le _, Nat.zero_le _, show (Lit.int .i64 4).wf = true by decide, by simp [Lit.wf, IntKind.min, IntKind.max, IntKind.bits, IntKind.signed]; omega⟩ (Nat.zero_le _) _ _ _ _ _⟩
  obtain ⟨y0, y1, y2, y3, y4⟩ := HO1.out.cells
  have fy := HO1.out.frozen
  have ly := HO1.out.lt
  obtain ⟨x0, x1, x2, x3, x4⟩ := HP.out.boxq.cells
  have fx := HP.out.boxq.frozen
  have lx := HP.out.boxq.lt
  have e0 : ((v : Int) == 0) = false := beq_eq_false_iff_ne.2 (by omega)
  have n0 : ¬ (v : Int) = 0 := by omega
  have e1 : ((v : Int) == 1) = false := beq_eq_false_iff_ne.2 (by omega)
  have n1 : ¬ (v : Int) = 1 := by omega
  have e2 : ((v : Int) == 2) = false := beq_eq_false_iff_ne.2 (by omega)
  have n2 : ¬ (v : Int) = 2 := by omega
  have e3 : ((v : Int) == 3) = false := beq_eq_false_iff_ne.2 (by omega)
  have n3 : ¬ (v : Int) = 3 := by omega
  have e4 : ((v : Int) == 4) = false := beq_eq_false_iff_ne.2 (by omega)
  have n4 : ¬ (v : Int) = 4 := by omega
  have e5 : ((v : Int) == 5) = false := beq_eq_false_iff_ne.2 (by omega)
  have n5 : ¬ (v : Int) = 5 := by omega
  go_wp2_with fail
  refine bodyPost_ret (v := .agg #[.int .i64 (cpz g).k, .string (cpz g).fr, .string (cpz g).tg, .int .i64 (cpz g).ix, .slice ua (cpz g).kids.len uc]) (by simp [results, Tryd.results89, go_sem, *]) rfl ?_
  exact DrP.back (( /- t -/ 39)) rfl ⟨⟨(cpz g).k, (cpz g).fr, (cpz g).tg, (cpz g).ix, (cpz g).kids⟩, _, _, rfl, fun h => cpzN_sm g h, dr_fin (N := ⟨(cpz g).k, (cpz g).fr, (cpz g).tg, (cpz g).ix, (cpz g).kids⟩) HP.out.start HP.out.only HP.out.rd (by omega) HG1.out.ow (w.heap.size + 1) (by simp) (fun x hx => by have := HG1.out.ge x hx; omega) HG1.out.nodup ⟨HFC.out.1, HFC.out.2.1, HFC.out.2.2.1, HFC.out.2.2.2⟩ (Nat.le_trans (cpzN_sz g) (Nat.le_succ _)) _ _ _ _ _⟩
end Go.Proofs.YtgcefippeokmcaaDoor

/- What a writer to a builder keeps. -/
namespace Go.Proofs.YtgcefippeokmcaaDoor
open Go.RowKit

/-- What lay below B is as it was, and so is every block that is neither the builder's nor a row of bytes. -/
structure Kp (B bb : Nat) (a b : World) : Prop where
  below : Below B a b
  others : Lib.OthersKept ( /- t -/ 5) (some bb) a b
theorem Kp.refl (B bb : Nat) (a : World) : Kp B bb a a := ⟨Below.refl _ _, Lib.OthersKept.refl _ _ _⟩
theorem Kp.trans {B bb : Nat} {a b c : World} (h : Kp B bb a b) (k : Kp B bb b c) : Kp B bb a c := ⟨h.below.trans k.below, h.others.trans k.others⟩
theorem Kp.of_below {B bb : Nat} {a b c : World} (h : Kp B bb a b) (hB : B ≤ b.heap.size) (k : Below b.heap.size b c) : Kp B bb a c := ⟨h.below.trans (k.mono hB), h.others.below k⟩
theorem Kp.drew {B bb : Nat} {a b : World} (h : Kp B bb a b) : Kp B bb a b.drew := ⟨h.below.drew, h.others.drew⟩
theorem Kp.alloc {B bb : Nat} {a b : World} (h : Kp B bb a b) (hB : B ≤ b.heap.size) (o : Obj) : Kp B bb a (b.alloc o) := h.of_below hB (alloc_below _ _)
/-- A block that is not the builder's and no row of bytes is as it was. -/
theorem Kp.cells {B bb : Nat} {a b : World} (h : Kp B bb a b) {k : Nat} {cs : Array Value} {t : TypeId} {z : Nat × Nat} (hk : a.heap[k]? = some (.cells cs t z)) (hb : k ≠ bb) (ht : t ≠ ( /- t -/ 5)) : b.heap[k]? = some (.cells cs t z) :=
  h.others k _ hk (fun e => hb (by injection e)) (fun c fz e => ht (by injection e))

/-- A builder stays one where what was there is as it was. -/
theorem bu_below {B bb : Nat} {bs : List Value} {a b : World} (h : Lib.IsBuilderF ( /- t -/ 73) ( /- t -/ 5) B bb bs a) (k : Below a.heap.size a b) : Lib.IsBuilderF ( /- t -/ 73) ( /- t -/ 5) B bb bs b := by
  rcases h with h | h
  · obtain ⟨h1, v, h2, h3, h4⟩ := h
    have hl := (Array.getElem?_eq_some_iff.1 h2).1
    exact Or.inl ⟨h1, v, by rw [k.block bb hl]; exact h2, World.ownsRowF.kept h3 (row := none) ⟨k.os, k.tape, k.output, k.size, fun i hi _ => k.block i hi⟩ (Classical.em _), h4⟩
  · obtain ⟨h1, v, h2, h3, h4⟩ := h
    have hl := (Array.getElem?_eq_some_iff.1 h2).1
    exact Or.inr ⟨h1, v, by rw [k.block bb hl]; exact h2, World.ownsRowF.kept h3 (row := none) ⟨k.os, k.tape, k.output, k.size, fun i hi _ => k.block i hi⟩ (Classical.em _), h4⟩

end Go.Proofs.YtgcefippeokmcaaDoor

/- Which letters lie in a short text. -/
namespace Go.Proofs.YtgcefippeokmcaaDoor
open Go.RowKit

/-- The letter lies in the string. -/
def inB (c : UInt8) (s : ByteArray) : Prop := c ∈ s.data.toList
theorem inB_append (c : UInt8) (a b : ByteArray) : inB c (a ++ b) ↔ inB c a ∨ inB c b := by simp [inB, ByteArray.data_append]

theorem dec_letters {i : Nat} (h : i < 40) {c : UInt8} (hc : 65 ≤ c.toNat) : c ∉ Lib.decDigits i := by
  intro hm
  have key : ∀ j : Fin 40, ∀ x ∈ Lib.decDigits j.val, x.toNat < 65 := by decide +kernel
  have := key ⟨i, h⟩ c hm
  omega

theorem lab_letters {s : ByteArray} (h : labB s = true) {c : UInt8} (hc : c.toNat ≤ 67) : ¬ inB c s := by
  intro hm
  unfold labB at h
  unfold inB at hm
  split at h
  · rename_i x e
    rw [e] at hm
    have : c = x := by simpa using hm
    subst this
    have := of_decide_eq_true h
    omega
  · cases h

theorem sign_letters {c : UInt8} (h1 : 65 ≤ c.toNat) (h2 : c.toNat ≤ 67) (x : UInt8) (hx : x.toNat ≤ 64 ∨ 68 ≤ x.toNat) : ¬ inB c ⟨#[x]⟩ := by
  intro hm
  have : c = x := by simpa [inB] using hm
  subst this
  omega

end Go.Proofs.YtgcefippeokmcaaDoor

/- Which roles' letters lie in the text of a valid tree: those that some message names. -/
namespace Go.Proofs.YtgcefippeokmcaaDoor
open Go.RowKit

/-- Some message of the list, or of the node, names the letter. -/
def namF (c : UInt8) : F → Prop
  | .nil => False
  | .cons _ k fr tq _ kids rest => (k = 2 ∧ (inB c fr ∨ inB c tq)) ∨ namF c kids ∨ namF c rest
def namN (c : UInt8) (k : Int) (fr tq : ByteArray) (kids : F) : Prop := (k = 2 ∧ (inB c fr ∨ inB c tq)) ∨ namF c kids

/-- All labels of the list are labels. -/
def labF : F → Prop
  | .nil => True
  | .cons lab _ _ _ _ _ rest => labB lab = true ∧ labF rest
theorem labF_of_asc : ∀ (f : F) (p : Option ByteArray), ascB p f = true → labF f := by
  intro f
  induction f with
  | nil => intro p _; trivial
  | cons lab k fr tq ix kids rest _ ihr =>
    intro p h
    simp only [ascB, Bool.and_eq_true] at h
    exact ⟨h.1.1, ihr _ h.2⟩

theorem nodeT_letters {c : UInt8} (h1 : 65 ≤ c.toNat) (h2 : c.toNat ≤ 67) {k : Int} {fr tq : ByteArray} {ix : Int} {kids : F} {b u d : Int} (hb : 0 ≤ b) (hu : 0 ≤ u) (hbd : b + d ≤ 40)
    (ih : ∀ (b u d : Int), 0 ≤ b → 0 ≤ u → b + d ≤ 40 → vldF kids b u d = true → (labF kids → (inB c (txF kids .first) ↔ namF c kids)) ∧ (kids.len = 1 → (inB c (txF kids .body) ↔ namF c kids)))
    (h : vldN k fr tq ix kids b u d = true) : inB c (txN k fr tq ix kids) ↔ namN c k fr tq kids := by
  unfold vldN at h
  obtain ⟨hd, hsh, hk⟩ := node_kinds hu h
  unfold txN nodeT namN
  rcases hk with rfl | ⟨rfl, h0, h3, rfl⟩ | ⟨rfl, hv⟩ | ⟨rfl, hv⟩
  · rw [if_pos rfl]
    have hkn := (shape_end hsh).2.2.2
    subst hkn
    have := sign_letters h1 h2 46 (by decide)
    simp only [namF]
    constructor
    · intro hm; exact (this hm).elim
    · rintro (⟨h, -⟩ | h)
      · exact absurd h (by decide)
      · exact h.elim
  · rw [if_neg (by decide), if_pos rfl, inB_append]
    have e1 := sign_letters h1 h2 35 (by decide)
    have e2 : ¬ inB c (bdec ix) := by
      intro hm
      exact dec_letters (i := ix.toNat) (by omega) h1 (by simpa [inB, bdec] using hm)
    simp only [namF]
    constructor
    · rintro (hm | hm)
      · exact (e1 hm).elim
      · exact (e2 hm).elim
    · rintro (⟨h, -⟩ | h)
      · exact absurd h (by decide)
      · exact h.elim
  · rw [if_neg (by decide), if_neg (by decide), if_pos rfl, inB_append]
    have e1 := sign_letters h1 h2 64 (by decide)
    obtain ⟨-, -, -, lab, k', fr', tq', ix', kids', rfl, -⟩ := shape_rec hsh
    have := (ih (b + 1) (u + 1) (d - 1) (by omega) (by omega) (by omega) hv).2 rfl
    rw [this]
    constructor
    · rintro (hm | hm)
      · exact (e1 hm).elim
      · exact Or.inr hm
    · rintro (⟨h, -⟩ | h)
      · exact absurd h (by decide)
      · exact Or.inr h
  · rw [if_neg (by decide), if_neg (by decide), if_neg (by decide), inB_append, inB_append, inB_append]
    have e1 := sign_letters h1 h2 125 (by decide)
    have hbr := (shape_msg hsh).2.2.2.2
    unfold branchesB at hbr
    simp only [Bool.and_eq_true] at hbr
    have := (ih b 0 (d - 1) hb (by omega) (by omega) hv).1 (labF_of_asc _ _ hbr.1)
    rw [this]
    constructor
    · rintro ((hm | hm) | hm)
      · exact Or.inl ⟨rfl, hm⟩
      · exact Or.inr hm
      · exact (e1 hm).elim
    · rintro (⟨-, h⟩ | h)
      · exact Or.inl (Or.inl h)
      · exact Or.inl (Or.inr h)

theorem txF_letters {c : UInt8} (h1 : 65 ≤ c.toNat) (h2 : c.toNat ≤ 67) : ∀ (f : F) (b u d : Int), 0 ≤ b → 0 ≤ u → b + d ≤ 40 → vldF f b u d = true →
    (labF f → ∀ i, (inB c (txF f (md i)) ↔ namF c f)) ∧ (f.len = 1 → (inB c (txF f .body) ↔ namF c f)) := by
  intro f
  induction f with
  | nil =>
    intro b u d _ _ _ _
    refine ⟨fun _ i => ?_, fun h => by simp [F.len] at h⟩
    have : txF F.nil (md i) = ⟨#[]⟩ := rfl
    rw [this]
    simp [inB, namF]
  | cons lab k fr tq ix kids rest ihk ihr =>
    intro b u d hb hu hbd h
    simp only [vldF, Bool.and_eq_true] at h
    obtain ⟨hn, hr⟩ := h
    have hT := nodeT_letters h1 h2 hb hu hbd (fun b' u' d' g1 g2 g3 g4 => ⟨fun hl => (ihk b' u' d' g1 g2 g3 g4).1 hl 0, (ihk b' u' d' g1 g2 g3 g4).2⟩) hn
    unfold namN at hT
    constructor
    · rintro ⟨hl, hl2⟩ i
      have hR := (ihr b u d hb hu hbd hr).1 hl2 (i + 1)
      have e1 : ¬ inB c (sepB i) := by
        unfold sepB
        split
        · exact sign_letters h1 h2 123 (by decide)
        · exact sign_letters h1 h2 124 (by decide)
      have e2 := lab_letters hl h2
      rw [txF_md, inB_append, inB_append, inB_append, hR, hT]
      simp only [namF]
      constructor
      · rintro (((hm | hm) | (hm | hm)) | hm)
        · exact (e1 hm).elim
        · exact (e2 hm).elim
        · exact Or.inl hm
        · exact Or.inr (Or.inl hm)
        · exact Or.inr (Or.inr hm)
      · rintro (hm | hm | hm)
        · exact Or.inl (Or.inr (Or.inl hm))
        · exact Or.inl (Or.inr (Or.inr hm))
        · exact Or.inr hm
    · intro hl
      have hr0 : rest = .nil := nil_of_len (by simp only [F.len] at hl; omega)
      subst hr0
      have hB : txF (.cons lab k fr tq ix kids .nil) .body = txN k fr tq ix kids := rfl
      rw [hB, hT]
      simp only [namF, or_false]

/-- A role's letter lies in the text of a valid node just if a message names it. -/
theorem txN_letters {c : UInt8} (h1 : 65 ≤ c.toNat) (h2 : c.toNat ≤ 67) {k : Int} {fr tq : ByteArray} {ix : Int} {kids : F} {b u d : Int} (hb : 0 ≤ b) (hu : 0 ≤ u) (hbd : b + d ≤ 40) (h : vldN k fr tq ix kids b u d = true) :
    inB c (txN k fr tq ix kids) ↔ namN c k fr tq kids :=
  nodeT_letters h1 h2 hb hu hbd (fun b' u' d' g1 g2 g3 g4 => ⟨fun hl => (txF_letters h1 h2 kids b' u' d' g1 g2 g3 g4).1 hl 0, (txF_letters h1 h2 kids b' u' d' g1 g2 g3 g4).2⟩) h
end Go.Proofs.YtgcefippeokmcaaDoor
