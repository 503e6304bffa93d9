/- l1Parse of the model: some tree in memory of its own, whatever the text. -/
import Derived.Test.YtgcefippeokmcaaUq
import Derived.Test.YtgcefippeokmcaaDy
import Derived.Laws.Bits64
namespace Go.Proofs.Ytgcefippeokmcaa
open Go.RowKit

/-- Some tree in new memory, and a place behind it or none. -/
def WkP (s : ByteArray) (p : Nat) (w : World) (e : Ending) (w' : World) : Prop :=
  ∃ (N : Nd) (u : Value) (bs : List Nat) (nx : Int), e = .returned (.tuple #[.agg #[.int .i64 N.k, .string N.fr, .string N.tg, .int .i64 N.ix, u], .int .i64 nx]) ∧ Ow w' u N.kids bs ∧ (∀ b, b ∈ bs → w.heap.size ≤ b) ∧ bs.Nodup ∧ Below w.heap.size w w' ∧ Fit N ∧
    ((nx = -1 ∧ N.kids.sz + p ≤ s.size) ∨ ∃ q : Nat, nx = (q : Int) ∧ p < q ∧ q ≤ s.size ∧ N.kids.sz + p + 1 ≤ q)
def WkAt (s : ByteArray) (d : Nat) : Prop := ∀ (w : World) (p : Nat), p ≤ s.size → Calls Try.prog 26 #[.string s, .int .i64 (p : Nat), .int .i64 (d : Nat)] w (WkP s p w)

theorem wk_leaf {s : ByteArray} {p : Nat} {w w' : World} (k ix : Int) {nx : Int} (hk : (Lit.int .i64 k).wf = true) (hi : (Lit.int .i64 ix).wf = true) (hn : (nx = -1 ∧ p ≤ s.size) ∨ ∃ q : Nat, nx = (q : Int) ∧ p < q ∧ q ≤ s.size) (hb : Below w.heap.size w w') :
    WkP s p w (.returned (.tuple #[.agg #[.int .i64 k, .string ⟨#[]⟩, .string ⟨#[]⟩, .int .i64 ix, .slice none 0 0], .int .i64 nx])) w' := by
  refine ⟨⟨k, ⟨#[]⟩, ⟨#[]⟩, ix, .nil⟩, _, [], nx, rfl, ⟨none, 0, rfl, Nat.le_refl _, Nat.zero_le _, Or.inl ⟨rfl, rfl⟩⟩, fun _ h => absurd h List.not_mem_nil, List.nodup_nil, hb, ⟨Nat.zero_le _, Nat.zero_le _, hk, hi⟩, ?_⟩
  rcases hn with ⟨h1, h2⟩ | ⟨q, h1, h2, h3⟩
  · exact Or.inl ⟨h1, by simp only [F.sz]; omega⟩
  · exact Or.inr ⟨q, h1, h2, h3, by simp only [F.sz]; omega⟩
/-- A result put into its box. -/
theorem wk_fin {s : ByteArray} {p : Nat} {w w2 : World} {N : Nd} {u : Value} {bs : List Nat} {nx : Int} (how : Ow w2 u N.kids bs) (hge : ∀ x, x ∈ bs → w.heap.size < x) (hnd : bs.Nodup) (hb : Below w.heap.size w w2) (hf : Fit N)
    (hn : (nx = -1 ∧ N.kids.sz + p ≤ s.size) ∨ ∃ q : Nat, nx = (q : Int) ∧ p < q ∧ q ≤ s.size ∧ N.kids.sz + p + 1 ≤ q) (v0 v1 v2 v3 v4 : Value) :
    WkP s p w (.returned (.tuple #[.agg #[.int .i64 N.k, .string N.fr, .string N.tg, .int .i64 N.ix, u], .int .i64 nx]))
      (((((w2.setCell ⟨w.heap.size, 0, none⟩ v0).setCell ⟨w.heap.size, 1, none⟩ v1).setCell ⟨w.heap.size, 2, none⟩ v2).setCell ⟨w.heap.size, 3, none⟩ v3).setCell ⟨w.heap.size, 4, none⟩ v4) := by
  have hne : ∀ x, x ≠ w.heap.size → (((((w2.setCell ⟨w.heap.size, 0, none⟩ v0).setCell ⟨w.heap.size, 1, none⟩ v1).setCell ⟨w.heap.size, 2, none⟩ v2).setCell ⟨w.heap.size, 3, none⟩ v3).setCell ⟨w.heap.size, 4, none⟩ v4).heap[x]? = w2.heap[x]? := fun x hx =>
    (Below.heap_setCell _ _ _ _ hx).trans ((Below.heap_setCell _ _ _ _ hx).trans ((Below.heap_setCell _ _ _ _ hx).trans ((Below.heap_setCell _ _ _ _ hx).trans (Below.heap_setCell _ _ _ _ hx))))
  exact ⟨N, u, bs, nx, rfl, how.same (fun x hx => hne x (by have := hge x hx; omega)), fun x hx => Nat.le_of_lt (hge x hx), hnd, ((((hb.setCell (Nat.le_refl _) _).setCell (Nat.le_refl _) _).setCell (Nat.le_refl _) _).setCell (Nat.le_refl _) _).setCell (Nat.le_refl _) _, hf, hn⟩
theorem ext_size (s : ByteArray) (a b : Nat) (h : b ≤ a + 1) : (s.extract a b).size ≤ maxLen := by
  have : (s.extract a b).size ≤ 1 := by
    rw [ByteArray.size_extract]
    omega
  unfold maxLen
  omega

set_option maxHeartbeats 1600000 in
set_option maxRecDepth 100000 in
theorem wk_zero (s : ByteArray) (w : World) (p : Nat) (hp : p ≤ s.size) : Calls Try.prog 26 #[.string s, .int .i64 (p : Nat), .int .i64 0] w (WkP s p w) := by
  go_enter Try.func26, Try.ntmps26
  go_wp2_with fail
  refine bodyPost_ret (v := .tuple #[.agg #[.int .i64 0, .string ⟨#[]⟩, .string ⟨#[]⟩, .int .i64 0, .slice none 0 0], .int .i64 (-1)]) (by simp [results, Try.results26, go_sem, *]) rfl ?_
  exact wk_leaf 0 0 (by decide) (by decide) (Or.inl ⟨rfl, by omega⟩) (alloc_below w _)

/-- What the message's parser owes. -/
def MsAt (s : ByteArray) (d : Nat) : Prop := ∀ (w : World) (p : Nat), p + 2 < s.size → Calls Try.prog 44 #[.string s, .int .i64 (p : Nat), .int .i64 ((d : Int) + 1)] w (WkP s p w)

set_option maxHeartbeats 2000000 in
set_option maxRecDepth 100000 in
theorem wk_succ (s : ByteArray) (hs : s.size ≤ 1048576) (d : Nat) (hd : d ≤ 40) (ih : WkAt s d) (hm : MsAt s d) (w : World) (p : Nat) (hp : p ≤ s.size) : Calls Try.prog 26 #[.string s, .int .i64 (p : Nat), .int .i64 ((d : Int) + 1)] w (WkP s p w) := by
  have h1 : ¬ (d : Int) + 1 < 1 := by omega
  have hwd : IntKind.i64.wrap (d : Int) = (d : Int) := by simp [IntKind.wrap, IntKind.bits, IntKind.signed]; omega
  have HIH := hide ih
  have HMS := hide hm
  clear ih hm
  by_cases hpe : p = s.size
  · subst hpe
    have hn : ¬ (s.size : Int) < (s.size : Int) := by omega
    go_enter Try.func26, Try.ntmps26
    go_wp2_with fail
    refine bodyPost_ret (v := .tuple #[.agg #[.int .i64 0, .string ⟨#[]⟩, .string ⟨#[]⟩, .int .i64 0, .slice none 0 0], .int .i64 (-1)]) (by simp [results, Try.results26, go_sem, *]) rfl ?_
    exact wk_leaf 0 0 (by decide) (by decide) (Or.inl ⟨rfl, by omega⟩) (alloc_below w _)
  have hin : p < s.size := by omega
  have hlt : (p : Int) < (s.size : Int) := by omega
  have hnle : ¬ (s.size : Int) ≤ (p : Int) := by omega
  by_cases c46 : ((s[p]'hin).toNat : Int) = 46
  · go_enter Try.func26, Try.ntmps26
    go_wp2_with fail
    refine bodyPost_ret (v := .tuple #[.agg #[.int .i64 1, .string ⟨#[]⟩, .string ⟨#[]⟩, .int .i64 0, .slice none 0 0], .int .i64 ((p + 1 : Nat) : Int)]) (by simp [results, Try.results26, go_sem, *]) rfl ?_
    exact wk_leaf 1 0 (by decide) (by decide) (Or.inr ⟨p + 1, rfl, by omega, by omega⟩) (alloc_below w _)
  have n46 : (((s[p]'hin).toNat : Int) == 46) = false := beq_eq_false_iff_ne.2 c46
  by_cases c35 : ((s[p]'hin).toNat : Int) = 35 ∧ p + 1 < s.size
  · obtain ⟨c35, hp1⟩ := c35
    have hp1i : (p : Int) + 1 < (s.size : Int) := by omega
    have hc256 := (s[p + 1]'hp1).toNat_lt
    have hwf : (Lit.int .i64 (((s[p + 1]'hp1).toNat : Int) - 48)).wf = true := by simp [Lit.wf, IntKind.min, IntKind.max, IntKind.bits, IntKind.signed]; omega
    have HWF := hide hwf
    clear hwf
    go_enter Try.func26, Try.ntmps26
    go_wp2_with fail
    refine bodyPost_ret (v := .tuple #[.agg #[.int .i64 4, .string ⟨#[]⟩, .string ⟨#[]⟩, .int .i64 (((s[p + 1]'hp1).toNat : Int) - 48), .slice none 0 0], .int .i64 ((p + 2 : Nat) : Int)]) (by simp [results, Try.results26, go_sem, *]) rfl ?_
    exact wk_leaf 4 _ (by decide) HWF.out (Or.inr ⟨p + 2, rfl, by omega, by omega⟩) (alloc_below w _)
  by_cases c64 : ((s[p]'hin).toNat : Int) = 64
  · have n35 : (((s[p]'hin).toNat : Int) == 35) = false := beq_eq_false_iff_ne.2 (by omega)
    have m35 : ((s[p]'hin).toNat : Int) ≠ 35 := by omega
    go_enter Try.func26, Try.ntmps26
    go_wp2_with fail
    have hx := Box5.now w (.int .i64 0) (.string ⟨#[]⟩) (.string ⟨#[]⟩) (.int .i64 0) (.slice none 0 0) ( /- t -/ 25)
    have hb1 := alloc_below w (.cells #[.int .i64 0, .string ⟨#[]⟩, .string ⟨#[]⟩, .int .i64 0, .slice none 0 0] ( /- t -/ 25))
    have hw1 : w.heap.size < (w.alloc (.cells #[.int .i64 0, .string ⟨#[]⟩, .string ⟨#[]⟩, .int .i64 0, .slice none 0 0] ( /- t -/ 25))).heap.size := by simp
    generalize w.alloc (.cells #[.int .i64 0, .string ⟨#[]⟩, .string ⟨#[]⟩, .int .i64 0, .slice none 0 0] ( /- t -/ 25)) = W at *
    rw [show (p : Int) + 1 = ((p + 1 : Nat) : Int) by omega]
    refine (HIH.out W (p + 1) (by omega)).mono ?_
    rintro e w4 ⟨N, u, bs, nx, rfl, how, hge, hnd, hb4, hf, hn⟩
    obtain ⟨ua, uc, rfl⟩ := how.val
    have HX4 := hide (hx.below hb4)
    obtain ⟨y0, y1, y2, y3, y4⟩ := HX4.out.cells
    have hfz := HX4.out.frozen
    have hl := HX4.out.lt
    have HB4 := hide (hb1.trans (hb4.mono hb1.size))
    have hs4 := hb4.size
    have HOW := hide how
    have HGE : Hid (∀ x, x ∈ bs → w.heap.size < x) := hide (fun x hx => by have := hge x hx; omega)
    have HND := hide hnd
    have HF := hide hf
    have HN := hide hn
    clear hx hb1 how hge hnd hf hn hb4
    go_wp2_with fail
    refine bodyPost_ret (v := .tuple #[.agg #[.int .i64 3, .string ⟨#[]⟩, .string ⟨#[]⟩, .int .i64 0, .slice (some ⟨w4.heap.size + 1, 0, none⟩) 1 1], .int .i64 nx]) (by simp [results, Try.results26, go_sem, *]) rfl ?_
    rw [set5_alloc _ _ _ _ _ _ _ _ hl, set5_alloc _ _ _ _ _ _ _ _ (by simp; omega)]
    have how1 := ow_one (w := w4.alloc (.cells #[.int .i64 N.k, .string N.fr, .string N.tg, .int .i64 N.ix, .slice ua N.kids.len uc] ( /- t -/ 25))) (lab := ⟨#[]⟩) (Nat.zero_le _) HF.out (HOW.out.same (Same.of_below (alloc_below w4 _) HOW.out.lt)) ( /- t -/ 28)
    rw [show (w4.alloc (.cells #[.int .i64 N.k, .string N.fr, .string N.tg, .int .i64 N.ix, .slice ua N.kids.len uc] ( /- t -/ 25))).heap.size = w4.heap.size + 1 by simp] at how1
    refine wk_fin (N := ⟨3, ⟨#[]⟩, ⟨#[]⟩, 0, .cons ⟨#[]⟩ N.k N.fr N.tg N.ix N.kids .nil⟩) how1 (fun x hx => ?_) ?_ ((HB4.out.alloc (by omega) _).alloc (by simp; omega) _) ⟨Nat.zero_le _, Nat.zero_le _, show (Lit.int .i64 3).wf = true by decide, show (Lit.int .i64 0).wf = true by decide⟩ ?_ _ _ _ _ _
    · rcases List.mem_cons.1 hx with rfl | hx
      · omega
      · exact HGE.out x hx
    · exact List.nodup_cons.2 ⟨fun hm => by have := HOW.out.lt _ hm; omega, HND.out⟩
    · rcases HN.out with ⟨e1, e2⟩ | ⟨q, e1, e2, e3, e4⟩
      · exact Or.inl ⟨e1, by simp only [F.sz]; omega⟩
      · exact Or.inr ⟨q, e1, by omega, e3, by simp only [F.sz]; omega⟩
  have n64 : (((s[p]'hin).toNat : Int) == 64) = false := beq_eq_false_iff_ne.2 c64
  have hms : ∀ (hh : p + 2 < s.size), (((s[p + 2]'hh).toNat : Int) = 123) → Calls Try.prog 26 #[.string s, .int .i64 (p : Nat), .int .i64 ((d : Int) + 1)] w (WkP s p w) := by
    intro hp2 c123
    have hp2i : (p : Int) + 2 < (s.size : Int) := by omega
    have m35 : ((s[p]'hin).toNat : Int) ≠ 35 := fun h => c35 ⟨h, by omega⟩
    have n35 : (((s[p]'hin).toNat : Int) == 35) = false := beq_eq_false_iff_ne.2 m35
    clear c35
    go_enter Try.func26, Try.ntmps26
    go_wp2_with fail
    have hx := Box5.now w (.int .i64 0) (.string ⟨#[]⟩) (.string ⟨#[]⟩) (.int .i64 0) (.slice none 0 0) ( /- t -/ 25)
    have hb1 := alloc_below w (.cells #[.int .i64 0, .string ⟨#[]⟩, .string ⟨#[]⟩, .int .i64 0, .slice none 0 0] ( /- t -/ 25))
    have hw1 : w.heap.size < (w.alloc (.cells #[.int .i64 0, .string ⟨#[]⟩, .string ⟨#[]⟩, .int .i64 0, .slice none 0 0] ( /- t -/ 25))).heap.size := by simp
    generalize w.alloc (.cells #[.int .i64 0, .string ⟨#[]⟩, .string ⟨#[]⟩, .int .i64 0, .slice none 0 0] ( /- t -/ 25)) = W at *
    refine (HMS.out W p hp2).mono ?_
    rintro e w4 ⟨N, u, bs, nx, rfl, how, hge, hnd, hb4, hf, hn⟩
    obtain ⟨ua, uc, rfl⟩ := how.val
    have HX4 := hide (hx.below hb4)
    obtain ⟨y0, y1, y2, y3, y4⟩ := HX4.out.cells
    have hfz := HX4.out.frozen
    have hl := HX4.out.lt
    have HB4 := hide (hb1.trans (hb4.mono hb1.size))
    have HOW := hide how
    have HGE : Hid (∀ x, x ∈ bs → w.heap.size < x) := hide (fun x hx => by have := hge x hx; omega)
    have HND := hide hnd
    have HF := hide hf
    have HN := hide hn
    clear hx hb1 how hge hnd hf hn hb4
    go_wp2_with fail
    refine bodyPost_ret (v := .tuple #[.agg #[.int .i64 N.k, .string N.fr, .string N.tg, .int .i64 N.ix, .slice ua N.kids.len uc], .int .i64 nx]) (by simp [results, Try.results26, go_sem, *]) rfl ?_
    exact wk_fin HOW.out HGE.out HND.out HB4.out HF.out HN.out _ _ _ _ _
  by_cases hp2 : p + 2 < s.size
  · by_cases c123 : ((s[p + 2]'hp2).toNat : Int) = 123
    · exact hms hp2 c123
    · have hp2i : (p : Int) + 2 < (s.size : Int) := by omega
      have n123 : (((s[p + 2]'hp2).toNat : Int) == 123) = false := beq_eq_false_iff_ne.2 c123
      have m35 : ((s[p]'hin).toNat : Int) ≠ 35 := fun h => c35 ⟨h, by omega⟩
      have n35 : (((s[p]'hin).toNat : Int) == 35) = false := beq_eq_false_iff_ne.2 m35
      clear c35 hms
      go_enter Try.func26, Try.ntmps26
      go_wp2_with fail
      refine bodyPost_ret (v := .tuple #[.agg #[.int .i64 0, .string ⟨#[]⟩, .string ⟨#[]⟩, .int .i64 0, .slice none 0 0], .int .i64 (-1)]) (by simp [results, Try.results26, go_sem, *]) rfl ?_
      exact wk_leaf 0 0 (by decide) (by decide) (Or.inl ⟨rfl, by omega⟩) (alloc_below w _)
  · have hp2i : ¬ (p : Int) + 2 < (s.size : Int) := by omega
    by_cases e35 : ((s[p]'hin).toNat : Int) = 35
    · have hp1i : ¬ (p : Int) + 1 < (s.size : Int) := fun h => c35 ⟨e35, by omega⟩
      clear c35 hms
      go_enter Try.func26, Try.ntmps26
      go_wp2_with fail
      refine bodyPost_ret (v := .tuple #[.agg #[.int .i64 0, .string ⟨#[]⟩, .string ⟨#[]⟩, .int .i64 0, .slice none 0 0], .int .i64 (-1)]) (by simp [results, Try.results26, go_sem, *]) rfl ?_
      exact wk_leaf 0 0 (by decide) (by decide) (Or.inl ⟨rfl, by omega⟩) (alloc_below w _)
    · have n35 : (((s[p]'hin).toNat : Int) == 35) = false := beq_eq_false_iff_ne.2 e35
      clear c35 hms
      go_enter Try.func26, Try.ntmps26
      go_wp2_with fail
      refine bodyPost_ret (v := .tuple #[.agg #[.int .i64 0, .string ⟨#[]⟩, .string ⟨#[]⟩, .int .i64 0, .slice none 0 0], .int .i64 (-1)]) (by simp [results, Try.results26, go_sem, *]) rfl ?_
      exact wk_leaf 0 0 (by decide) (by decide) (Or.inl ⟨rfl, by omega⟩) (alloc_below w _)
end Go.Proofs.Ytgcefippeokmcaa
