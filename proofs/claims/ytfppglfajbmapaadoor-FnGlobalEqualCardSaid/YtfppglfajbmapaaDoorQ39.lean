/- Pg, Du, Ft, Fm -/
import Derived.Test.YtfppglfajbmapaaDoorQ37
import Derived.Test.YtfppglfajbmapaaDoorQ38
import Derived.Laws.Bits64
import Derived.Test.YtfppglfajbmapaaDoorSc
import Derived.Test.YtfppglfajbmapaaDoorCg
import Derived.Test.YtfppglfajbmapaaDoorDc
import Derived.RegionTactic
import Derived.Deep.RegionHeld3
/- l1Parse of the model: some tree in memory of its own, whatever the text. -/
namespace Go.Proofs.YtfppglfajbmapaaDoor
open Go.RowKit

/-- Some tree in new memory, and a place behind it or none. -/
def WkP (s : ByteArray) (p : Nat) (w : World) (e : Ending) (w' : World) : Prop :=
  ∃ (N : Nd) (u : Value) (bs : List Nat) (nx : Int), e = .returned (.tuple #[.agg #[.int .i64 N.k, .string N.fr, .string N.tg, .int .i64 N.ix, u], .int .i64 nx]) ∧ Ow w' u N.kids bs ∧ (∀ b, b ∈ bs → w.heap.size ≤ b) ∧ bs.Nodup ∧ Below w.heap.size w w' ∧ Fit N ∧
    ((nx = -1 ∧ N.kids.sz + p ≤ s.size) ∨ ∃ q : Nat, nx = (q : Int) ∧ p < q ∧ q ≤ s.size ∧ N.kids.sz + p + 1 ≤ q)
def WkAt (s : ByteArray) (d : Nat) : Prop := ∀ (w : World) (p : Nat), p ≤ s.size → Calls Tryd.prog 139 #[.string s, .int .i64 (p : Nat), .int .i64 (d : Nat)] w (WkP s p w)

theorem wk_leaf {s : ByteArray} {p : Nat} {w w' : World} (k ix : Int) {nx : Int} (hk : (Lit.int .i64 k).wf = true) (hi : (Lit.int .i64 ix).wf = true) (hn : (nx = -1 ∧ p ≤ s.size) ∨ ∃ q : Nat, nx = (q : Int) ∧ p < q ∧ q ≤ s.size) (hb : Below w.heap.size w w') :
    WkP s p w (.returned (.tuple #[.agg #[.int .i64 k, .string ⟨#[]⟩, .string ⟨#[]⟩, .int .i64 ix, .slice none 0 0], .int .i64 nx])) w' := by
  refine ⟨⟨k, ⟨#[]⟩, ⟨#[]⟩, ix, .nil⟩, _, [], nx, rfl, ⟨none, 0, rfl, Nat.le_refl _, Nat.zero_le _, Or.inl ⟨rfl, rfl⟩⟩, fun _ h => absurd h List.not_mem_nil, List.nodup_nil, hb, ⟨Nat.zero_le _, Nat.zero_le _, hk, hi⟩, ?_⟩
  rcases hn with ⟨h1, h2⟩ | ⟨q, h1, h2, h3⟩
  · exact Or.inl ⟨h1, by simp only [F.sz]; omega⟩
  · exact Or.inr ⟨q, h1, h2, h3, by simp only [F.sz]; omega⟩
/-- A result put into its box. -/
theorem wk_fin {s : ByteArray} {p : Nat} {w w2 : World} {N : Nd} {u : Value} {bs : List Nat} {nx : Int} (how : Ow w2 u N.kids bs) (hge : ∀ x, x ∈ bs → w.heap.size < x) (hnd : bs.Nodup) (hb : Below w.heap.size w w2) (hf : Fit N)
    (hn : (nx = -1 ∧ N.kids.sz + p ≤ s.size) ∨ ∃ q : Nat, nx = (q : Int) ∧ p < q ∧ q ≤ s.size ∧ N.kids.sz + p + 1 ≤ q) (v0 v1 v2 v3 v4 : Value) :
    WkP s p w (.returned (.tuple #[.agg #[.int .i64 N.k, .string N.fr, .string N.tg, .int .i64 N.ix, u], .int .i64 nx]))
      (((((w2.setCell ⟨w.heap.size, 0, none⟩ v0).setCell ⟨w.heap.size, 1, none⟩ v1).setCell ⟨w.heap.size, 2, none⟩ v2).setCell ⟨w.heap.size, 3, none⟩ v3).setCell ⟨w.heap.size, 4, none⟩ v4) := by
  have hne : ∀ x, x ≠ w.heap.size → (((((w2.setCell ⟨w.heap.size, 0, none⟩ v0).setCell ⟨w.heap.size, 1, none⟩ v1).setCell ⟨w.heap.size, 2, none⟩ v2).setCell ⟨w.heap.size, 3, none⟩ v3).setCell ⟨w.heap.size, 4, none⟩ v4).heap[x]? = w2.heap[x]? := fun x hx =>
    (Below.heap_setCell _ _ _ _ hx).trans ((Below.heap_setCell _ _ _ _ hx).trans ((Below.heap_setCell _ _ _ _ hx).trans ((Below.heap_setCell _ _ _ _ hx).trans (Below.heap_setCell _ _ _ _ hx))))
  exact ⟨N, u, bs, nx, rfl, how.same (fun x hx => hne x (by have := hge x hx; omega)), fun x hx => Nat.le_of_lt (hge x hx), hnd, ((((hb.setCell (Nat.le_refl _) _).setCell (Nat.le_refl _) _).setCell (Nat.le_refl _) _).setCell (Nat.le_refl _) _).setCell (Nat.le_refl _) _, hf, hn⟩
theorem ext_size (s : ByteArray) (a b : Nat) (h : b ≤ a + 1) : (s.extract a b).size ≤ maxLen := by
  have : (s.extract a b).size ≤ 1 := by
    rw [ByteArray.size_extract]
    omega
  unfold maxLen
  omega

set_option maxHeartbeats 1600000 in
set_option maxRecDepth 100000 in
theorem wk_zero (s : ByteArray) (w : World) (p : Nat) (hp : p ≤ s.size) : Calls Tryd.prog 139 #[.string s, .int .i64 (p : Nat), .int .i64 0] w (WkP s p w) := by
  go_enter Tryd.func139, Tryd.ntmps139
  go_wp2_with fail
  refine bodyPost_ret (v := .tuple #[.agg #[.int .i64 0, .string ⟨#[]⟩, .string ⟨#[]⟩, .int .i64 0, .slice none 0 0], .int .i64 (-1)]) (by simp [results, Tryd.results139, go_sem, *]) rfl ?_
  exact wk_leaf 0 0 (by decide) (by decide) (Or.inl ⟨rfl, by omega⟩) (alloc_below w _)

/-- What the message's parser owes. -/
def MsAt (s : ByteArray) (d : Nat) : Prop := ∀ (w : World) (p : Nat), p + 2 < s.size → Calls Tryd.prog 168 #[.string s, .int .i64 (p : Nat), .int .i64 ((d : Int) + 1)] w (WkP s p w)

set_option maxHeartbeats 2000000 in
set_option maxRecDepth 100000 in
theorem wk_succ (s : ByteArray) (hs : s.size ≤ 1048576) (d : Nat) (hd : d ≤ 40) (ih : WkAt s d) (hm : MsAt s d) (w : World) (p : Nat) (hp : p ≤ s.size) : Calls Tryd.prog 139 #[.string s, .int .i64 (p : Nat), .int .i64 ((d : Int) + 1)] w (WkP s p w) := by
  have h1 : ¬ (d : Int) + 1 < 1 := by omega
  have hwd : IntKind.i64.wrap (d : Int) = (d : Int) := by simp [IntKind.wrap, IntKind.bits, IntKind.signed]; omega
  have HIH := hide ih
  have HMS := hide hm
  clear ih hm
  by_cases hpe : p = s.size
  · subst hpe
    have hn : ¬ (s.size : Int) < (s.size : Int) := by omega
    go_enter Tryd.func139, Tryd.ntmps139
    go_wp2_with fail
    refine bodyPost_ret (v := .tuple #[.agg #[.int .i64 0, .string ⟨#[]⟩, .string ⟨#[]⟩, .int .i64 0, .slice none 0 0], .int .i64 (-1)]) (by simp [results, Tryd.results139, go_sem, *]) rfl ?_
    exact wk_leaf 0 0 (by decide) (by decide) (Or.inl ⟨rfl, by omega⟩) (alloc_below w _)
  have hin : p < s.size := by omega
  have hlt : (p : Int) < (s.size : Int) := by omega
  have hnle : ¬ (s.size : Int) ≤ (p : Int) := by omega
  by_cases c46 : ((s[p]'hin).toNat : Int) = 46
  · go_enter Tryd.func139, Tryd.ntmps139
    go_wp2_with fail
    refine bodyPost_ret (v := .tuple #[.agg #[.int .i64 1, .string ⟨#[]⟩, .string ⟨#[]⟩, .int .i64 0, .slice none 0 0], .int .i64 ((p + 1 : Nat) : Int)]) (by simp [results, Tryd.results139, go_sem, *]) rfl ?_
    exact wk_leaf 1 0 (by decide) (by decide) (Or.inr ⟨p + 1, rfl, by omega, by omega⟩) (alloc_below w _)
  have n46 : (((s[p]'hin).toNat : Int) == 46) = false := beq_eq_false_iff_ne.2 c46
  by_cases c35 : ((s[p]'hin).toNat : Int) = 35 ∧ p + 1 < s.size
  · obtain ⟨c35, hp1⟩ := c35
    have hp1i : (p : Int) + 1 < (s.size : Int) := by omega
    have hc256 := (s[p + 1]'hp1).toNat_lt
    have hwf : (Lit.int .i64 (((s[p + 1]'hp1).toNat : Int) - 48)).wf = true := by simp [Lit.wf, IntKind.min, IntKind.max, IntKind.bits, IntKind.signed]; omega
    have HWF := hide hwf
    clear hwf
    go_enter Tryd.func139, Tryd.ntmps139
    go_wp2_with fail
    refine bodyPost_ret (v := .tuple #[.agg #[.int .i64 4, .string ⟨#[]⟩, .string ⟨#[]⟩, .int .i64 (((s[p + 1]'hp1).toNat : Int) - 48), .slice none 0 0], .int .i64 ((p + 2 : Nat) : Int)]) (by simp [results, Tryd.results139, go_sem, *]) rfl ?_
    exact wk_leaf 4 _ (by decide) HWF.out (Or.inr ⟨p + 2, rfl, by omega, by omega⟩) (alloc_below w _)
  by_cases c64 : ((s[p]'hin).toNat : Int) = 64
  · have n35 : (((s[p]'hin).toNat : Int) == 35) = false := beq_eq_false_iff_ne.2 (by omega)
    have m35 : ((s[p]'hin).toNat : Int) ≠ 35 := by omega
    go_enter Tryd.func139, Tryd.ntmps139
    go_wp2_with fail
    have hx := Box5.now w (.int .i64 0) (.string ⟨#[]⟩) (.string ⟨#[]⟩) (.int .i64 0) (.slice none 0 0) ( /- t -/ 25)
    have hb1 := alloc_below w (.cells #[.int .i64 0, .string ⟨#[]⟩, .string ⟨#[]⟩, .int .i64 0, .slice none 0 0] ( /- t -/ 25))
    have hw1 : w.heap.size < (w.alloc (.cells #[.int .i64 0, .string ⟨#[]⟩, .string ⟨#[]⟩, .int .i64 0, .slice none 0 0] ( /- t -/ 25))).heap.size := by simp
    generalize w.alloc (.cells #[.int .i64 0, .string ⟨#[]⟩, .string ⟨#[]⟩, .int .i64 0, .slice none 0 0] ( /- t -/ 25)) = W at *
    rw [show (p : Int) + 1 = ((p + 1 : Nat) : Int) by omega]
    refine (HIH.out W (p + 1) (by omega)).mono ?_
    rintro e w4 ⟨N, u, bs, nx, rfl, how, hge, hnd, hb4, hf, hn⟩
    obtain ⟨ua, uc, rfl⟩ := how.val
    have HX4 := hide (hx.below hb4)
    obtain ⟨y0, y1, y2, y3, y4⟩ := HX4.out.cells
    have hfz := HX4.out.frozen
    have hl := HX4.out.lt
    have HB4 := hide (hb1.trans (hb4.mono hb1.size))
    have hs4 := hb4.size
    have HOW := hide how
    have HGE : Hid (∀ x, x ∈ bs → w.heap.size < x) := hide (fun x hx => by have := hge x hx; omega)
    have HND := hide hnd
    have HF := hide hf
    have HN := hide hn
    clear hx hb1 how hge hnd hf hn hb4
    go_wp2_with fail
    refine bodyPost_ret (v := .tuple #[.agg #[.int .i64 3, .string ⟨#[]⟩, .string ⟨#[]⟩, .int .i64 0, .slice (some ⟨w4.heap.size + 1, 0, none⟩) 1 1], .int .i64 nx]) (by simp [results, Tryd.results139, go_sem, *]) rfl ?_
    rw [set5_alloc _ _ _ _ _ _ _ _ hl, set5_alloc _ _ _ _ _ _ _ _ (by simp; omega)]
    have how1 := ow_one (w := w4.alloc (.cells #[.int .i64 N.k, .string N.fr, .string N.tg, .int .i64 N.ix, .slice ua N.kids.len uc] ( /- t -/ 25))) (lab := ⟨#[]⟩) (Nat.zero_le _) HF.out (HOW.out.same (Same.of_below (alloc_below w4 _) HOW.out.lt)) ( /- t -/ 76)
    rw [show (w4.alloc (.cells #[.int .i64 N.k, .string N.fr, .string N.tg, .int .i64 N.ix, .slice ua N.kids.len uc] ( /- t -/ 25))).heap.size = w4.heap.size + 1 by simp] at how1
    refine wk_fin (N := ⟨3, ⟨#[]⟩, ⟨#[]⟩, 0, .cons ⟨#[]⟩ N.k N.fr N.tg N.ix N.kids .nil⟩) how1 (fun x hx => ?_) ?_ ((HB4.out.alloc (by omega) _).alloc (by simp; omega) _) ⟨Nat.zero_le _, Nat.zero_le _, show (Lit.int .i64 3).wf = true by decide, show (Lit.int .i64 0).wf = true by decide⟩ ?_ _ _ _ _ _
    · rcases List.mem_cons.1 hx with rfl | hx
      · omega
      · exact HGE.out x hx
    · exact List.nodup_cons.2 ⟨fun hm => by have := HOW.out.lt _ hm; omega, HND.out⟩
    · rcases HN.out with ⟨e1, e2⟩ | ⟨q, e1, e2, e3, e4⟩
      · exact Or.inl ⟨e1, by simp only [F.sz]; omega⟩
      · exact Or.inr ⟨q, e1, by omega, e3, by simp only [F.sz]; omega⟩
  have n64 : (((s[p]'hin).toNat : Int) == 64) = false := beq_eq_false_iff_ne.2 c64
  have hms : ∀ (hh : p + 2 < s.size), (((s[p + 2]'hh).toNat : Int) = 123) → Calls Tryd.prog 139 #[.string s, .int .i64 (p : Nat), .int .i64 ((d : Int) + 1)] w (WkP s p w) := by
    intro hp2 c123
    have hp2i : (p : Int) + 2 < (s.size : Int) := by omega
    have m35 : ((s[p]'hin).toNat : Int) ≠ 35 := fun h => c35 ⟨h, by omega⟩
    have n35 : (((s[p]'hin).toNat : Int) == 35) = false := beq_eq_false_iff_ne.2 m35
    clear c35
    go_enter Tryd.func139, Tryd.ntmps139
    go_wp2_with fail
    have hx := Box5.now w (.int .i64 0) (.string ⟨#[]⟩) (.string ⟨#[]⟩) (.int .i64 0) (.slice none 0 0) ( /- t -/ 25)
    have hb1 := alloc_below w (.cells #[.int .i64 0, .string ⟨#[]⟩, .string ⟨#[]⟩, .int .i64 0, .slice none 0 0] ( /- t -/ 25))
    have hw1 : w.heap.size < (w.alloc (.cells #[.int .i64 0, .string ⟨#[]⟩, .string ⟨#[]⟩, .int .i64 0, .slice none 0 0] ( /- t -/ 25))).heap.size := by simp
    generalize w.alloc (.cells #[.int .i64 0, .string ⟨#[]⟩, .string ⟨#[]⟩, .int .i64 0, .slice none 0 0] ( /- t -/ 25)) = W at *
    refine (HMS.out W p hp2).mono ?_
    rintro e w4 ⟨N, u, bs, nx, rfl, how, hge, hnd, hb4, hf, hn⟩
    obtain ⟨ua, uc, rfl⟩ := how.val
    have HX4 := hide (hx.below hb4)
    obtain ⟨y0, y1, y2, y3, y4⟩ := HX4.out.cells
    have hfz := HX4.out.frozen
    have hl := HX4.out.lt
    have HB4 := hide (hb1.trans (hb4.mono hb1.size))
    have HOW := hide how
    have HGE : Hid (∀ x, x ∈ bs → w.heap.size < x) := hide (fun x hx => by have := hge x hx; omega)
    have HND := hide hnd
    have HF := hide hf
    have HN := hide hn
    clear hx hb1 how hge hnd hf hn hb4
    go_wp2_with fail
    refine bodyPost_ret (v := .tuple #[.agg #[.int .i64 N.k, .string N.fr, .string N.tg, .int .i64 N.ix, .slice ua N.kids.len uc], .int .i64 nx]) (by simp [results, Tryd.results139, go_sem, *]) rfl ?_
    exact wk_fin HOW.out HGE.out HND.out HB4.out HF.out HN.out _ _ _ _ _
  by_cases hp2 : p + 2 < s.size
  · by_cases c123 : ((s[p + 2]'hp2).toNat : Int) = 123
    · exact hms hp2 c123
    · have hp2i : (p : Int) + 2 < (s.size : Int) := by omega
      have n123 : (((s[p + 2]'hp2).toNat : Int) == 123) = false := beq_eq_false_iff_ne.2 c123
      have m35 : ((s[p]'hin).toNat : Int) ≠ 35 := fun h => c35 ⟨h, by omega⟩
      have n35 : (((s[p]'hin).toNat : Int) == 35) = false := beq_eq_false_iff_ne.2 m35
      clear c35 hms
      go_enter Tryd.func139, Tryd.ntmps139
      go_wp2_with fail
      refine bodyPost_ret (v := .tuple #[.agg #[.int .i64 0, .string ⟨#[]⟩, .string ⟨#[]⟩, .int .i64 0, .slice none 0 0], .int .i64 (-1)]) (by simp [results, Tryd.results139, go_sem, *]) rfl ?_
      exact wk_leaf 0 0 (by decide) (by decide) (Or.inl ⟨rfl, by omega⟩) (alloc_below w _)
  · have hp2i : ¬ (p : Int) + 2 < (s.size : Int) := by omega
    by_cases e35 : ((s[p]'hin).toNat : Int) = 35
    · have hp1i : ¬ (p : Int) + 1 < (s.size : Int) := fun h => c35 ⟨e35, by omega⟩
      clear c35 hms
      go_enter Tryd.func139, Tryd.ntmps139
      go_wp2_with fail
      refine bodyPost_ret (v := .tuple #[.agg #[.int .i64 0, .string ⟨#[]⟩, .string ⟨#[]⟩, .int .i64 0, .slice none 0 0], .int .i64 (-1)]) (by simp [results, Tryd.results139, go_sem, *]) rfl ?_
      exact wk_leaf 0 0 (by decide) (by decide) (Or.inl ⟨rfl, by omega⟩) (alloc_below w _)
    · have n35 : (((s[p]'hin).toNat : Int) == 35) = false := beq_eq_false_iff_ne.2 e35
      clear c35 hms
      go_enter Tryd.func139, Tryd.ntmps139
      go_wp2_with fail
      refine bodyPost_ret (v := .tuple #[.agg #[.int .i64 0, .string ⟨#[]⟩, .string ⟨#[]⟩, .int .i64 0, .slice none 0 0], .int .i64 (-1)]) (by simp [results, Tryd.results139, go_sem, *]) rfl ?_
      exact wk_leaf 0 0 (by decide) (by decide) (Or.inl ⟨rfl, by omega⟩) (alloc_below w _)
end Go.Proofs.YtfppglfajbmapaaDoor

/- l1Mutate of the model: any tree, changed a little. -/
namespace Go.Proofs.YtfppglfajbmapaaDoor
open Go.RowKit

theorem cpz_sz (Z : Nd) (hZ : Z.kids = .nil) : ∀ (f : F) (i : Int), (subF Z f i).sz ≤ f.sz := by
  intro f
  induction f with
  | nil => intro i; exact Nat.le_refl _
  | cons lab k fr tg ix kids rest ihk ihr =>
    intro i
    unfold subF
    split
    · simp only [F.sz, hZ]
      have := ihr i
      omega
    · simp only [F.sz]
      have h1 := ihk (bump k i)
      have h2 := ihr i
      omega
theorem cpz_sm (Z : Nd) (hZ : Z.kids = .nil) (hz : Z.ix = 0) : ∀ (f : F) (i : Int), smF f → smF (subF Z f i) := by
  intro f
  induction f with
  | nil => intro i _; trivial
  | cons lab k fr tg ix kids rest ihk ihr =>
    intro i h
    unfold subF
    split
    · simp only [smF, hZ, hz]
      exact ⟨by omega, trivial, ihr i h.2.2⟩
    · simp only [smF]
      exact ⟨h.1, ihk _ h.2.1, ihr i h.2.2⟩
theorem hF_sz : ∀ f : F, hF f ≤ f.sz
  | .nil => by simp [hF]
  | .cons lab k fr tg ix kids rest => by
    have h1 := hF_sz kids
    have h2 := hF_sz rest
    simp only [hF, F.sz]
    omega
theorem cpzN_sz (g : Nd) : (cpz g).kids.sz ≤ g.kids.sz := by
  unfold cpz subN
  split
  · exact Nat.zero_le _
  · exact cpz_sz _ rfl _ _
theorem cpzN_sm (g : Nd) (h : smF g.kids) : smF (cpz g).kids := by
  unfold cpz subN
  split
  · trivial
  · exact cpz_sm _ rfl rfl _ _ h
theorem cpzN_fit {g : Nd} (h : Fit g) : Fit (cpz g) := subN_fit h ⟨Nat.zero_le _, Nat.zero_le _, show (Lit.int .i64 0).wf = true by decide, show (Lit.int .i64 0).wf = true by decide⟩
theorem St.set {w : World} {rb : Nat} {cv : Value} {l : List Nat} {p : Nat} {W : World} {q : Nat} (h : St w rb cv l p W q) (a : Addr) (v : Value) (ha : w.heap.size < a.block) : St w rb cv l p (W.setCell a v) q := by
  have hl := h.start.lt
  have ho : Only rb w (W.setCell a v) := h.only.setCell (Or.inr (by omega)) v
  exact ⟨h.start, ho, h.start.fin h.rd ho (Below.heap_setCell _ _ _ _ (by omega)), h.box.same (Below.heap_setCell _ _ _ _ (by omega))⟩
theorem St.boxq {w : World} {rb : Nat} {cv : Value} {l : List Nat} {p : Nat} {W : World} {q : Nat} {cs : Array Value} {t : TypeId} (h : St (w.alloc (.cells cs t)) rb cv l p W q) : Box5 W (w.heap.size + 1) (.int .i64 0) (.string ⟨#[]⟩) (.string ⟨#[]⟩) (.int .i64 0) (.slice none 0 0) := by
  have := h.box
  rwa [show (w.alloc (.cells cs t)).heap.size = w.heap.size + 1 by simp] at this
theorem St.drew {w : World} {rb : Nat} {cv : Value} {l : List Nat} {p : Nat} {W : World} {q : Nat} (h : St w rb cv l p W q) : St w rb cv l p W.drew q := h.on (Only.refl _ _).drew h.rd.drew
theorem St.below {w : World} {rb : Nat} {cv : Value} {l : List Nat} {p : Nat} {W W' : World} {q : Nat} (h : St w rb cv l p W q) (hb : Below W.heap.size W W') : St w rb cv l p W' q := h.on ((Only.refl _ _).below hb) (h.rd.below hb)
theorem DrP.back {Q : Nd → Prop} {w w1 : World} {rb : Nat} {cv : Value} {l : List Nat} {p K S : Nat} {e : Ending} {w' : World} {cs : Array Value} (t : TypeId) (hw : w1 = w.alloc (.cells cs t)) (h : DrP Q w1 rb cv l p K S e w') : DrP Q w rb cv l p K S e w' := by
  subst hw
  obtain ⟨N, u, bs, h1, h2, h3⟩ := h
  have hz : w.heap.size ≤ (w.alloc (.cells cs t)).heap.size := by simp
  exact ⟨N, u, bs, h1, h2, h3.own, fun b hb => Nat.le_trans hz (h3.ge b hb), h3.nd, ((Only.refl rb w).alloc _).trans h3.only, h3.rd, h3.fit, h3.sz⟩

set_option maxHeartbeats 4000000 in
set_option maxRecDepth 100000 in
theorem mut_calls (w : World) (rb : Nat) (cv : Value) (l : List Nat) (p : Nat) (h : Rd w rb cv l p) (hp : p + 4 ≤ 1000000) (g : Nd) (sv : Value) (hs : Sl w sv g.kids) (hf : Fit g) (hsz : g.kids.sz ≤ 900) :
    Calls Tryd.prog 42 #[.pointer (some ⟨rb, 0, none⟩), .agg #[.int .i64 g.k, .string g.fr, .string g.tg, .int .i64 g.ix, sv]] w (DrP (fun N => smF g.kids → smF N.kids) w rb cv l p 4 (g.kids.sz + 1)) := by
  have hrb := h.lt
  have HS0 := hide (St.new (h.below (alloc_below w (.cells #[.int .i64 g.k, .string g.fr, .string g.tg, .int .i64 g.ix, sv] ( /- t -/ 25)))) ( /- t -/ 25))
  have HSV := hide hs
  have HF := hide hf
  have HFC := hide (cpzN_fit hf)
  have HCP := hide (fun (w' : World) (hs : Sl w' sv g.kids) => copyg_calls w' g sv hs hf (by have := hF_sz g.kids; omega) ⟨by have := len_sz g.kids; omega, lnF_sz _ (by omega)⟩)
  obtain ⟨i0, hinf, hz0, hz1, hz2⟩ := info_parts Tryd.info76
  have HI := hide (And.intro hinf (And.intro hz0 (And.intro hz1 hz2)))
  clear hinf hz0 hz1 hz2 h hs hf
  go_enter Tryd.func42, Tryd.ntmps42
  go_wp2_with fail
  have HB2 := hide (((alloc_below w (.cells #[.int .i64 g.k, .string g.fr, .string g.tg, .int .i64 g.ix, sv] ( /- t -/ 25)))).alloc (by simp) (.cells #[.int .i64 0, .string ⟨#[]⟩, .string ⟨#[]⟩, .int .i64 0, .slice none 0 0] ( /- t -/ 25)))
  refine (HCP.out _ (HSV.out.still (Still.of_below HB2.out))).mono ?_
  rintro e wc ⟨u, bs, rfl, hgr, hb⟩
  obtain ⟨ua, uc, rfl⟩ := hgr.val
  have hz2 : w.heap.size + 2 ≤ wc.heap.size := by have := hb.size; simpa using this
  have HS1 := hide ((HS0.out.below hb).alloc (.cells #[.int .i64 (cpz g).k, .string (cpz g).fr, .string (cpz g).tg, .int .i64 (cpz g).ix, .slice ua (cpz g).kids.len uc] ( /- t -/ 25)))
  have HO0 := hide (Box5.now wc (.int .i64 (cpz g).k) (.string (cpz g).fr) (.string (cpz g).tg) (.int .i64 (cpz g).ix) (.slice ua (cpz g).kids.len uc) ( /- t -/ 25))
  have HG00 := hide ((hgr.below (alloc_below wc (.cells #[.int .i64 (cpz g).k, .string (cpz g).fr, .string (cpz g).tg, .int .i64 (cpz g).ix, .slice ua (cpz g).kids.len uc] ( /- t -/ 25)))).mono (base' := w.heap.size + 2) (by simp))
  have HGOB : Hid (∀ x, x ∈ bs → x < wc.heap.size) := hide hgr.lt
  have hwv : wc.heap.size < (wc.alloc (.cells #[.int .i64 (cpz g).k, .string (cpz g).fr, .string (cpz g).tg, .int .i64 (cpz g).ix, .slice ua (cpz g).kids.len uc] ( /- t -/ 25))).heap.size := by simp
  clear hgr hb HS0
  go_upto_region 2 with fail
  generalize wc.alloc (.cells #[.int .i64 (cpz g).k, .string (cpz g).fr, .string (cpz g).tg, .int .i64 (cpz g).ix, .slice ua (cpz g).kids.len uc] ( /- t -/ 25)) = V at *
  generalize wc.heap.size = ob at *
  clear wc
  go_wp2_with fail
  refine (pick_calls _ rb cv l _ HS1.out.rd (by omega) 72 (by omega)).mono ?_
  rintro e wp ⟨v, rfl, hv, hask⟩
  have HP := hide (HS1.out.ask hask)
  have HO1 := hide (HO0.out.same (hask.only.block ob (by omega) (by omega)))
  have HG1 := hide (HG00.out.same (hask.only.same (fun x hx => ⟨HG00.out.lt x hx, by have := HG00.out.ge x hx; omega⟩)))
  have hwp : ob < wp.heap.size := HO1.out.lt
  clear hask HS1 HO0 HG00 hv hwv
  by_cases hv0 : v = 0
  · subst hv0
    go_wp2_with fail
    have HA0 := hide (HP.out.alloc (.cells #[.int .i64 0, .int .i64 5, .int .i64 1, .int .i64 2, .int .i64 3, .int .i64 4] ( /- t -/ 3)))
    have HB0 := hide (HO1.out.below (alloc_below wp (.cells #[.int .i64 0, .int .i64 5, .int .i64 1, .int .i64 2, .int .i64 3, .int .i64 4] ( /- t -/ 3))))
    have HG0 := hide (HG1.out.below (alloc_below wp (.cells #[.int .i64 0, .int .i64 5, .int .i64 1, .int .i64 2, .int .i64 3, .int .i64 4] ( /- t -/ 3))))
    refine (num_calls _ rb cv l _ HA0.out.rd (by omega) [0, 5, 1, 2, 3, 4] _ (sl6i wp _ _ _ _ _ _ ( /- t -/ 3)) (by decide) (by decide) (new_far HP.out.rd.lt)).mono ?_
    rintro e wq ⟨nv, hnv, rfl, hask⟩
    have HNW := hide (wf_all hnv (by decide))
    have HQ := hide (HA0.out.ask hask)
    have HOQ := hide (HB0.out.same (hask.only.block ob (by simp; omega) (by omega)))
    have HGQ := hide (HG0.out.same (hask.only.same (fun x hx => ⟨HG0.out.lt x hx, by have := HG0.out.ge x hx; omega⟩)))
    clear hask HA0 HB0 HG0 hnv
    obtain ⟨y0, y1, y2, y3, y4⟩ := HOQ.out.cells
    have fy := HOQ.out.frozen
    have ly := HOQ.out.lt
    obtain ⟨x0, x1, x2, x3, x4⟩ := HQ.out.boxq.cells
    have fx := HQ.out.boxq.frozen
    have lx := HQ.out.boxq.lt
    go_wp2_with fail
    have HR := hide (HQ.out.set ⟨ob, 0, none⟩ (.int .i64 nv) (by simp; omega))
    have HGR := hide (HGQ.out.same (w' := wq.setCell ⟨ob, 0, none⟩ (.int .i64 nv)) (fun x hx => Below.heap_setCell _ _ _ _ (by have := HGOB.out x hx; simp; omega)))
    refine bodyPost_ret (v := .agg #[.int .i64 nv, .string (cpz g).fr, .string (cpz g).tg, .int .i64 (cpz g).ix, .slice ua (cpz g).kids.len uc]) (by simp [results, Tryd.results42, go_sem, *]) rfl ?_
    exact DrP.back (( /- t -/ 25)) rfl ⟨⟨nv, (cpz g).fr, (cpz g).tg, (cpz g).ix, (cpz g).kids⟩, _, _, rfl, fun h => cpzN_sm g h, dr_fin (N := ⟨nv, (cpz g).fr, (cpz g).tg, (cpz g).ix, (cpz g).kids⟩) HR.out.start HR.out.only HR.out.rd (by omega) HGR.out.ow (w.heap.size + 1) (by simp) (fun x hx => by have := HGR.out.ge x hx; omega) HGR.out.nodup ⟨HFC.out.1, HFC.out.2.1, HNW.out, HFC.out.2.2.2⟩ (Nat.le_trans (cpzN_sz g) (Nat.le_succ _)) _ _ _ _ _⟩
  by_cases hv1 : v = 1
  · subst hv1
    go_wp2_with fail
    have HA0 := hide (HP.out.alloc (.cells #[.string ⟨#[]⟩, .string ⟨#[68]⟩, .string ⟨#[66]⟩, .string ⟨#[65]⟩] ( /- t -/ 9)))
    have HB0 := hide (HO1.out.below (alloc_below wp (.cells #[.string ⟨#[]⟩, .string ⟨#[68]⟩, .string ⟨#[66]⟩, .string ⟨#[65]⟩] ( /- t -/ 9))))
    have HG0 := hide (HG1.out.below (alloc_below wp (.cells #[.string ⟨#[]⟩, .string ⟨#[68]⟩, .string ⟨#[66]⟩, .string ⟨#[65]⟩] ( /- t -/ 9))))
    refine (of_calls _ rb cv l _ HA0.out.rd (by omega) [⟨#[]⟩, ⟨#[68]⟩, ⟨#[66]⟩, ⟨#[65]⟩] _ (sl4 wp _ _ _ _ ( /- t -/ 9) (show (0 : Nat) ≤ maxLen by unfold maxLen; omega) (show (1 : Nat) ≤ maxLen by unfold maxLen; omega) (show (1 : Nat) ≤ maxLen by unfold maxLen; omega) (show (1 : Nat) ≤ maxLen by unfold maxLen; omega)) (by decide) (by decide) (new_far HP.out.rd.lt)).mono ?_
    rintro e wq ⟨nv, hnv, rfl, hask⟩
    have HNW := hide (small_all hnv (by decide))
    have HQ := hide (HA0.out.ask hask)
    have HOQ := hide (HB0.out.same (hask.only.block ob (by simp; omega) (by omega)))
    have HGQ := hide (HG0.out.same (hask.only.same (fun x hx => ⟨HG0.out.lt x hx, by have := HG0.out.ge x hx; omega⟩)))
    clear hask HA0 HB0 HG0 hnv
    obtain ⟨y0, y1, y2, y3, y4⟩ := HOQ.out.cells
    have fy := HOQ.out.frozen
    have ly := HOQ.out.lt
    obtain ⟨x0, x1, x2, x3, x4⟩ := HQ.out.boxq.cells
    have fx := HQ.out.boxq.frozen
    have lx := HQ.out.boxq.lt
    go_wp2_with fail
    have HR := hide (HQ.out.set ⟨ob, 1, none⟩ (.string nv) (by simp; omega))
    have HGR := hide (HGQ.out.same (w' := wq.setCell ⟨ob, 1, none⟩ (.string nv)) (fun x hx => Below.heap_setCell _ _ _ _ (by have := HGOB.out x hx; simp; omega)))
    refine bodyPost_ret (v := .agg #[.int .i64 (cpz g).k, .string nv, .string (cpz g).tg, .int .i64 (cpz g).ix, .slice ua (cpz g).kids.len uc]) (by simp [results, Tryd.results42, go_sem, *]) rfl ?_
    exact DrP.back (( /- t -/ 25)) rfl ⟨⟨(cpz g).k, nv, (cpz g).tg, (cpz g).ix, (cpz g).kids⟩, _, _, rfl, fun h => cpzN_sm g h, dr_fin (N := ⟨(cpz g).k, nv, (cpz g).tg, (cpz g).ix, (cpz g).kids⟩) HR.out.start HR.out.only HR.out.rd (by omega) HGR.out.ow (w.heap.size + 1) (by simp) (fun x hx => by have := HGR.out.ge x hx; omega) HGR.out.nodup ⟨HNW.out, HFC.out.2.1, HFC.out.2.2.1, HFC.out.2.2.2⟩ (Nat.le_trans (cpzN_sz g) (Nat.le_succ _)) _ _ _ _ _⟩
  by_cases hv2 : v = 2
  · subst hv2
    go_wp2_with fail
    have HA0 := hide (HP.out.alloc (.cells #[.int .i64 (-1), .int .i64 1, .int .i64 9223372036854775807] ( /- t -/ 3)))
    have HB0 := hide (HO1.out.below (alloc_below wp (.cells #[.int .i64 (-1), .int .i64 1, .int .i64 9223372036854775807] ( /- t -/ 3))))
    have HG0 := hide (HG1.out.below (alloc_below wp (.cells #[.int .i64 (-1), .int .i64 1, .int .i64 9223372036854775807] ( /- t -/ 3))))
    refine (num_calls _ rb cv l _ HA0.out.rd (by omega) [-1, 1, 9223372036854775807] _ (sl3i wp _ _ _ ( /- t -/ 3)) (by decide) (by decide) (new_far HP.out.rd.lt)).mono ?_
    rintro e wq ⟨nv, hnv, rfl, hask⟩
    have HNW := hide (wf_all hnv (by decide))
    have HQ := hide (HA0.out.ask hask)
    have HOQ := hide (HB0.out.same (hask.only.block ob (by simp; omega) (by omega)))
    have HGQ := hide (HG0.out.same (hask.only.same (fun x hx => ⟨HG0.out.lt x hx, by have := HG0.out.ge x hx; omega⟩)))
    clear hask HA0 HB0 HG0 hnv
    obtain ⟨y0, y1, y2, y3, y4⟩ := HOQ.out.cells
    have fy := HOQ.out.frozen
    have ly := HOQ.out.lt
    obtain ⟨x0, x1, x2, x3, x4⟩ := HQ.out.boxq.cells
    have fx := HQ.out.boxq.frozen
    have lx := HQ.out.boxq.lt
    go_wp2_with fail
    have HR := hide (HQ.out.set ⟨ob, 3, none⟩ (.int .i64 nv) (by simp; omega))
    have HGR := hide (HGQ.out.same (w' := wq.setCell ⟨ob, 3, none⟩ (.int .i64 nv)) (fun x hx => Below.heap_setCell _ _ _ _ (by have := HGOB.out x hx; simp; omega)))
    refine bodyPost_ret (v := .agg #[.int .i64 (cpz g).k, .string (cpz g).fr, .string (cpz g).tg, .int .i64 nv, .slice ua (cpz g).kids.len uc]) (by simp [results, Tryd.results42, go_sem, *]) rfl ?_
    exact DrP.back (( /- t -/ 25)) rfl ⟨⟨(cpz g).k, (cpz g).fr, (cpz g).tg, nv, (cpz g).kids⟩, _, _, rfl, fun h => cpzN_sm g h, dr_fin (N := ⟨(cpz g).k, (cpz g).fr, (cpz g).tg, nv, (cpz g).kids⟩) HR.out.start HR.out.only HR.out.rd (by omega) HGR.out.ow (w.heap.size + 1) (by simp) (fun x hx => by have := HGR.out.ge x hx; omega) HGR.out.nodup ⟨HFC.out.1, HFC.out.2.1, HFC.out.2.2.1, HNW.out⟩ (Nat.le_trans (cpzN_sz g) (Nat.le_succ _)) _ _ _ _ _⟩
  by_cases hv3 : v = 3
  · subst hv3
    have y4 := HO1.out.cells.2.2.2.2
    go_wp2_with fail
    refine wp_region_T (fun w' => w'.cell? ⟨ob, 4, none⟩ = some (.slice ua (cpz g).kids.len uc)) 10 (by kernel_rfl) y4 (fun hHeld => ?_)
    refine wpAnyT_take (L := 10) (i := 0) (v := ?v0) rfl (by kernel_rfl) (by kernel_rfl) (by kernel_rfl) (by kernel_rfl) (fun _ _ _ h => h) hHeld (Or.inl ⟨by rfl, ?hy0⟩) ?rest0
    case hy0 => ((intro w' hw'); (try dsimp only at hw'); (go_simp); (try with_reducible rfl))
    (try simp only [Act.put]); (try simp only [List.setIfInBounds_toArray]); (try simp only [List.set_cons_zero]); (try simp only [List.set_cons_succ])
    refine wpAnyT_take (L := 10) (i := 1) (v := ?v1) rfl (by kernel_rfl) (by kernel_rfl) (by kernel_rfl) (by kernel_rfl) (fun _ _ _ h => h) hHeld (Or.inl ⟨by rfl, ?hy1⟩) ?rest1
    case hy1 => ((intro w' hw'); (try dsimp only at hw'); (go_simp); (try with_reducible rfl))
    (try simp only [Act.put]); (try simp only [List.setIfInBounds_toArray]); (try simp only [List.set_cons_zero]); (try simp only [List.set_cons_succ])
    refine wpAnyT_take (L := 10) (i := 2) (v := ?v2) rfl (by kernel_rfl) (by kernel_rfl) (by kernel_rfl) (by kernel_rfl) (fun _ _ _ h => h) hHeld (Or.inl ⟨by rfl, ?hy2⟩) ?rest2
    case hy2 => ((intro w' hw'); (try dsimp only at hw'); (go_simp); (try with_reducible rfl))
    (try simp only [Act.put]); (try simp only [List.setIfInBounds_toArray]); (try simp only [List.set_cons_zero]); (try simp only [List.set_cons_succ])
    refine wpAnyT_take (L := 10) (i := 5) (v := ?v5) rfl (by kernel_rfl) (by kernel_rfl) (by kernel_rfl) (by kernel_rfl) (fun _ _ _ h => h) hHeld (Or.inl ⟨by rfl, ?hy5⟩) ?rest5
    case hy5 => ((intro w' hw'); (try dsimp only at hw'); (go_simp); (try with_reducible rfl))
    (try simp only [Act.put]); (try simp only [List.setIfInBounds_toArray]); (try simp only [List.set_cons_zero]); (try simp only [List.set_cons_succ])
    refine wpAnyT_one (L := 10) (i := 3) (by kernel_rfl) rfl (fun K hK => ?_)
    go_simp
    have HA0 := hide (HP.out.drew.alloc (.cells #[.string ⟨#[97]⟩, .string ⟨#[101]⟩, .string ⟨#[]⟩] ( /- t -/ 9)))
    have HB0 := hide ((HO1.out.same (w' := wp.drew) rfl).below (alloc_below wp.drew (.cells #[.string ⟨#[97]⟩, .string ⟨#[101]⟩, .string ⟨#[]⟩] ( /- t -/ 9))))
    have HG0 := hide ((HG1.out.same (w' := wp.drew) (fun _ _ => rfl)).below (alloc_below wp.drew (.cells #[.string ⟨#[97]⟩, .string ⟨#[101]⟩, .string ⟨#[]⟩] ( /- t -/ 9))))
    have hd3 : (wp.drew.alloc (.cells #[.string ⟨#[97]⟩, .string ⟨#[101]⟩, .string ⟨#[]⟩] ( /- t -/ 9))).cell? ⟨ob, 4, none⟩ = some (.slice ua (cpz g).kids.len uc) := HB0.out.cells.2.2.2.2
    have HD3 := hide hd3
    refine hK.out _ _ (fun _ => HD3.out) ?_
    clear hK K hd3
    (try simp only [Act.put]); (try simp only [List.setIfInBounds_toArray]); (try simp only [List.set_cons_zero]); (try simp only [List.set_cons_succ])
    refine wpAnyT_one (L := 10) (i := 4) (by kernel_rfl) rfl (fun K hK => ?_)
    go_simp
    go_at_call 43
    refine (of_calls _ rb cv l _ HA0.out.rd (by omega) [⟨#[97]⟩, ⟨#[101]⟩, ⟨#[]⟩] _ (gsl3 wp.drew _ _ _ ( /- t -/ 9) (show (1 : Nat) ≤ maxLen by unfold maxLen; omega) (show (1 : Nat) ≤ maxLen by unfold maxLen; omega) (show (0 : Nat) ≤ maxLen by unfold maxLen; omega)) (by decide) (by decide) (new_far (w := wp.drew) HP.out.rd.lt)).mono ?_
    rintro e wq ⟨nv, hnv, rfl, hask⟩
    have HNW := hide (small_all hnv (by decide))
    have HQ := hide (HA0.out.ask hask)
    have HOQ := hide (HB0.out.same (hask.only.block ob (by simp; omega) (by omega)))
    have HGQ := hide (HG0.out.same (hask.only.same (fun x hx => ⟨HG0.out.lt x hx, by have := HG0.out.ge x hx; omega⟩)))
    clear hask HA0 HB0 HG0 hnv
    have hd4 : wq.cell? ⟨ob, 4, none⟩ = some (.slice ua (cpz g).kids.len uc) := HOQ.out.cells.2.2.2.2
    have HD4 := hide hd4
    refine hK.out _ _ (fun _ => HD4.out) ?_
    clear hK K hd4
    refine wpAnyT_take (L := 10) (i := 6) (v := ?v6) rfl (by kernel_rfl) (by kernel_rfl) (by kernel_rfl) (by kernel_rfl) (fun _ _ _ h => h) HD4.out (Or.inl ⟨by rfl, ?hy6⟩) ?rest6
    case hy6 => ((intro w' hw'); (try dsimp only at hw'); (go_simp); (try with_reducible rfl))
    (try simp only [Act.put]); (try simp only [List.setIfInBounds_toArray]); (try simp only [List.set_cons_zero]); (try simp only [List.set_cons_succ])
    refine wpAnyT_one (L := 10) (i := 7) (by kernel_rfl) rfl (fun K hK => ?_)
    go_simp
    have HD5 := hide (Still.of_below (alloc_below wq (.cells #[.string nv, .int .i64 1, .string ⟨#[]⟩, .string ⟨#[]⟩, .int .i64 0, .slice none 0 0] ( /- t -/ 76))) _ _ HD4.out)
    refine hK.out _ _ (fun _ => HD5.out) ?_
    clear hK K
    (try simp only [Act.put]); (try simp only [List.setIfInBounds_toArray]); (try simp only [List.set_cons_zero]); (try simp only [List.set_cons_succ])
    refine wpAnyT_one (L := 10) (i := 8) (by kernel_rfl) rfl (fun K hK => ?_)
    have hgr5 := HGQ.out.below (alloc_below wq (.cells #[.string nv, .int .i64 1, .string ⟨#[]⟩, .string ⟨#[]⟩, .int .i64 0, .slice none 0 0] ( /- t -/ 76)))
    have hwq : ob < wq.heap.size := HOQ.out.lt
    have hln : (cpz g).kids.len ≤ 1000 := Nat.le_trans (len_sz _) (Nat.le_trans (cpzN_sz g) (by omega))
    refine step_append_lies _ (by rfl) _ _ _ (by rfl) (w.heap.size + 2) ( /- t -/ 76) i0 _ 6 88 Tryd.underlying23 HI.out.1 HI.out.2.1 HI.out.2.2.1 HI.out.2.2.2 rfl (by omega) (.slice ua (cpz g).kids.len uc) (cpz g).kids.len (grXs (wq.alloc (.cells #[.string nv, .int .i64 1, .string ⟨#[]⟩, .string ⟨#[]⟩, .int .i64 0, .slice none 0 0] ( /- t -/ 76))) (.slice ua (cpz g).kids.len uc) (cpz g).kids) (by rfl) hgr5.owns
      ⟨wq.heap.size, 0, none⟩ 1 1 [.string nv, .int .i64 1, .string ⟨#[]⟩, .string ⟨#[]⟩, .int .i64 0, .slice none 0 0] (by rfl) (by rfl) (World.news_of_block (cs := #[.string nv, .int .i64 1, .string ⟨#[]⟩, .string ⟨#[]⟩, .int .i64 0, .slice none 0 0]) (t := ( /- t -/ 76)) (fr := (0, 0)) (heap_alloc_new wq _)) (by simp [Value.oneCell'])
      (by omega) (by unfold maxLen; omega) (by omega) (by simp; omega) _ rfl ?_
    intro gg cp w6 hown6 hgrow6 hat6 hlt6
    have hfarb : ∀ b8, b8 < wq.heap.size → b8 ∉ bs → w6.heap[b8]? = wq.heap[b8]? := fun b8 hb8 hn8 => by
      rw [hgrow6.block b8 (by simp; omega) (fun e => hn8 (hgr5.block b8 e.symm)), Below.heap_alloc _ _ _ (by omega)]
    have hobn : ob ∉ bs := fun hm => by have := HGOB.out ob hm; omega
    have HO6 := hide (HOQ.out.same (hfarb ob hwq hobn))
    have HD6 := hide (HO6.out.cells.2.2.2.2)
    refine hK.out _ _ (fun _ => HD6.out) ?_
    clear hK K
    (try simp only [Act.put]); (try simp only [List.setIfInBounds_toArray]); (try simp only [List.set_cons_zero]); (try simp only [List.set_cons_succ])
    refine wpAnyT_take (L := 10) (i := 9) (v := ?v9) rfl (by kernel_rfl) (by kernel_rfl) (by kernel_rfl) (by kernel_rfl) (fun _ _ _ h => h) HD6.out (Or.inl ⟨by rfl, ?hy9⟩) ?rest9
    case hy9 => ((intro w' hw'); (try dsimp only at hw'); (go_simp); (try with_reducible rfl))
    (try simp only [Act.put]); (try simp only [List.setIfInBounds_toArray]); (try simp only [List.set_cons_zero]); (try simp only [List.set_cons_succ])
    have o4 := HO6.out.cells.2.2.2.2
    have fo := HO6.out.frozen
    have lo := HO6.out.lt
    refine wpAnyT_one (L := 10) (i := 10) (by kernel_rfl) rfl (fun K hK => ?_)
    go_simp
    refine hK.out _ _ (fun h => absurd rfl h) ?_
    refine wpAnyT_done (by kernel_rfl) ?_ _
    clear hK K
    have hBS : ∀ x, x < w.heap.size + 2 → x ∉ bs := fun x hx hm => by have := HGQ.out.ge x hm; omega
    have hOw : Only rb (w.alloc (.cells #[.int .i64 g.k, .string g.fr, .string g.tg, .int .i64 g.ix, sv] ( /- t -/ 25))) w6 := by
      have h2 := HQ.out.only.alloc (.cells #[.string nv, .int .i64 1, .string ⟨#[]⟩, .string ⟨#[]⟩, .int .i64 0, .slice none 0 0] ( /- t -/ 76))
      exact ⟨hgrow6.os.trans h2.os, hgrow6.tape.trans h2.tape, hgrow6.output.trans h2.output, Nat.le_trans h2.size hgrow6.size, fun x hx hc => (hgrow6.block x (Nat.lt_of_lt_of_le hx h2.size) (fun e => by
        have h1 := hgr5.ge x (hgr5.block x e.symm)
        simp at hx
        omega)).trans (h2.block x hx hc)⟩
    have HS6 : Hid (St (w.alloc (.cells #[.int .i64 g.k, .string g.fr, .string g.tg, .int .i64 g.ix, sv] ( /- t -/ 25))) rb cv l p w6 (p + 1 + 1)) := hide ⟨HQ.out.start, hOw, HQ.out.start.fin HQ.out.rd hOw (hfarb rb (by have := HQ.out.rd.lt; omega) (hBS rb (by omega))), HQ.out.box.same (hfarb _ HQ.out.box.lt (hBS _ (by simp)))⟩
    obtain ⟨bs', hpush, hpn⟩ := Gr.push hgr5 (lab := nv) (fr := ⟨#[]⟩) (k := 1) (ix := 0) (u := .slice none 0 0) (kids := .nil) (ks := []) ⟨none, 0, rfl, Nat.le_refl _, Nat.zero_le _, Or.inl ⟨rfl, rfl⟩⟩ (fun x hx => absurd hx List.not_mem_nil) List.nodup_nil
      (fun x _ hx => absurd hx List.not_mem_nil) HNW.out (Nat.zero_le _) (Nat.zero_le _) (by decide) (by decide) hown6 hgrow6 (by rcases hat6 with h | h; exact Or.inl h; exact Or.inr h)
    have hbo : ∀ x, x ∈ bs' → x ≠ ob := fun x hx => by
      rcases hpn x hx with h | h | h
      · exact fun e => hobn (e ▸ h)
      · exact absurd h List.not_mem_nil
      · simp at h; omega
    have HGP := hide (hpush.same (w' := w6.setCell ⟨ob, 4, none⟩ (.slice (some ⟨gg, 0, none⟩) ((cpz g).kids.len + 1) cp)) (fun x hx => Below.heap_setCell _ _ _ _ (hbo x hx)))
    have HR := hide (HS6.out.set ⟨ob, 4, none⟩ (.slice (some ⟨gg, 0, none⟩) ((cpz g).kids.len + 1) cp) (by simp; omega))
    obtain ⟨x0, x1, x2, x3, x4⟩ := HR.out.boxq.cells
    have fx := HR.out.boxq.frozen
    have lx := HR.out.boxq.lt
    have HOP := hide (HO6.out.set4 (.slice (some ⟨gg, 0, none⟩) ((cpz g).kids.len + 1) cp))
    obtain ⟨y0, y1, y2, y3, y4⟩ := HOP.out.cells
    have fy := HOP.out.frozen
    have ly := HOP.out.lt
    have HEQ : Hid (((cpz g).kids.app (.cons nv 1 ⟨#[]⟩ ⟨#[]⟩ 0 .nil .nil)).len = (cpz g).kids.len + 1) := hide (by rw [F.len_app]; rfl)
    clear hpush hbo hBS hOw hown6 hgrow6 hat6 hgr5 hfarb hpn o4 fo lo
    generalize w6.setCell ⟨ob, 4, none⟩ (.slice (some ⟨gg, 0, none⟩) ((cpz g).kids.len + 1) cp) = w7 at *
    go_wp2_with fail
    refine bodyPost_ret (v := .agg #[.int .i64 (cpz g).k, .string (cpz g).fr, .string (cpz g).tg, .int .i64 (cpz g).ix, .slice (some ⟨gg, 0, none⟩) ((cpz g).kids.len + 1) cp]) (by simp [results, Tryd.results42, go_sem, *]) rfl ?_
    exact DrP.back (( /- t -/ 25)) rfl ⟨⟨(cpz g).k, (cpz g).fr, (cpz g).tg, (cpz g).ix, ((cpz g).kids.app (.cons nv 1 ⟨#[]⟩ ⟨#[]⟩ 0 .nil .nil))⟩, _, _, rfl, fun h => (smF_app _ _).2 ⟨cpzN_sm g h, ⟨show (0 : Int) ≤ 0 by omega, show (0 : Int) ≤ 9 by omega⟩, trivial, trivial⟩, dr_fin (N := ⟨(cpz g).k, (cpz g).fr, (cpz g).tg, (cpz g).ix, ((cpz g).kids.app (.cons nv 1 ⟨#[]⟩ ⟨#[]⟩ 0 .nil .nil))⟩) HR.out.start HR.out.only HR.out.rd (by omega) HGP.out.ow (w.heap.size + 1) (by simp) (fun x hx => by have := HGP.out.ge x hx; omega) HGP.out.nodup ⟨HFC.out.1, HFC.out.2.1, HFC.out.2.2.1, HFC.out.2.2.2⟩ (by rw [F.sz_app]; have := cpzN_sz g; simp only [F.sz]; omega) _ _ _ _ _⟩
  by_cases hv4 : v = 4
  · subst hv4
    obtain ⟨x0, x1, x2, x3, x4⟩ := HP.out.boxq.cells
    have fx := HP.out.boxq.frozen
    have lx := HP.out.boxq.lt
    go_wp2_with fail
    rw [set5_alloc _ _ _ _ _ _ _ _ lx]
    have HQ := hide (HP.out.alloc (.cells #[.string ⟨#[]⟩, .int .i64 4, .string ⟨#[]⟩, .string ⟨#[]⟩, .int .i64 0, .slice none 0 0] ( /- t -/ 76)))
    have HW := hide (ow_one (w := wp) (lab := ⟨#[]⟩) (Nat.zero_le _) (N := ⟨4, ⟨#[]⟩, ⟨#[]⟩, 0, .nil⟩) ⟨Nat.zero_le _, Nat.zero_le _, show (Lit.int .i64 4).wf = true by decide, show (Lit.int .i64 0).wf = true by decide⟩ (u := .slice none 0 0) (bs := []) ⟨none, 0, rfl, Nat.le_refl _, Nat.zero_le _, Or.inl ⟨rfl, rfl⟩⟩ ( /- t -/ 76))
    refine bodyPost_ret (v := .agg #[.int .i64 3, .string ⟨#[]⟩, .string ⟨#[]⟩, .int .i64 0, .slice (some ⟨wp.heap.size, 0, none⟩) 1 1]) (by simp [results, Tryd.results42, go_sem, *]) rfl ?_
    exact DrP.back (( /- t -/ 25)) rfl ⟨⟨3, ⟨#[]⟩, ⟨#[]⟩, 0, .cons ⟨#[]⟩ 4 ⟨#[]⟩ ⟨#[]⟩ 0 .nil .nil⟩, _, _, rfl, fun _ => ⟨⟨show (0 : Int) ≤ 0 by omega, show (0 : Int) ≤ 9 by omega⟩, trivial, trivial⟩, dr_fin (N := ⟨3, ⟨#[]⟩, ⟨#[]⟩, 0, .cons ⟨#[]⟩ 4 ⟨#[]⟩ ⟨#[]⟩ 0 .nil .nil⟩) HQ.out.start HQ.out.only HQ.out.rd (by omega) HW.out (w.heap.size + 1) (by simp) (fun x hx => by have := HP.out.box.lt; simp at hx this; omega) (by simp) ⟨Nat.zero_le _, Nat.zero_le _, show (Lit.int .i64 3).wf = true by decide, show (Lit.int .i64 0).wf = true by decide⟩ (by simp [F.sz]) _ _ _ _ _⟩
  by_cases hv5 : v = 5
  · subst hv5
    go_wp2_with fail
    refine (pick_calls _ rb cv l _ HP.out.rd (by omega) 2 (by omega)).mono ?_
    rintro e wq ⟨nv, rfl, hnv, hask⟩
    have HQ := hide (HP.out.ask hask)
    clear hask
    have hn9 : (nv : Int) ≤ 9 := by omega
    obtain ⟨x0, x1, x2, x3, x4⟩ := HQ.out.boxq.cells
    have fx := HQ.out.boxq.frozen
    have lx := HQ.out.boxq.lt
    go_wp2_with fail
    refine bodyPost_ret (v := .agg #[.int .i64 4, .string ⟨#[]⟩, .string ⟨#[]⟩, .int .i64 (nv : Int), .slice none 0 0]) (by simp [results, Tryd.results42, go_sem, *]) rfl ?_
    exact DrP.back (( /- t -/ 25)) rfl ⟨⟨4, ⟨#[]⟩, ⟨#[]⟩, (nv : Int), .nil⟩, _, [], rfl, fun _ => trivial, dr_fin (N := ⟨4, ⟨#[]⟩, ⟨#[]⟩, (nv : Int), .nil⟩) HQ.out.start HQ.out.only HQ.out.rd (by omega) ⟨none, 0, rfl, Nat.le_refl _, Nat.zero_le _, Or.inl ⟨rfl, rfl⟩⟩ (w.heap.size + 1) (by simp) (fun x hx => absurd hx List.not_mem_nil) List.nodup_nil ⟨Nat.zero_le _, Nat.zero_le _, show (Lit.int .i64 4).wf = true by decide, by simp [Lit.wf, IntKind.min, IntKind.max, IntKind.bits, IntKind.signed]; omega⟩ (Nat.zero_le _) _ _ _ _ _⟩
  obtain ⟨y0, y1, y2, y3, y4⟩ := HO1.out.cells
  have fy := HO1.out.frozen
  have ly := HO1.out.lt
  obtain ⟨x0, x1, x2, x3, x4⟩ := HP.out.boxq.cells
  have fx := HP.out.boxq.frozen
  have lx := HP.out.boxq.lt
  have e0 : ((v : Int) == 0) = false := beq_eq_false_iff_ne.2 (by omega)
  have n0 : ¬ (v : Int) = 0 := by omega
  have e1 : ((v : Int) == 1) = false := beq_eq_false_iff_ne.2 (by omega)
  have n1 : ¬ (v : Int) = 1 := by omega
  have e2 : ((v : Int) == 2) = false := beq_eq_false_iff_ne.2 (by omega)
  have n2 : ¬ (v : Int) = 2 := by omega
  have e3 : ((v : Int) == 3) = false := beq_eq_false_iff_ne.2 (by omega)
  have n3 : ¬ (v : Int) = 3 := by omega
  have e4 : ((v : Int) == 4) = false := beq_eq_false_iff_ne.2 (by omega)
  have n4 : ¬ (v : Int) = 4 := by omega
  have e5 : ((v : Int) == 5) = false := beq_eq_false_iff_ne.2 (by omega)
  have n5 : ¬ (v : Int) = 5 := by omega
  go_wp2_with fail
  refine bodyPost_ret (v := .agg #[.int .i64 (cpz g).k, .string (cpz g).fr, .string (cpz g).tg, .int .i64 (cpz g).ix, .slice ua (cpz g).kids.len uc]) (by simp [results, Tryd.results42, go_sem, *]) rfl ?_
  exact DrP.back (( /- t -/ 25)) rfl ⟨⟨(cpz g).k, (cpz g).fr, (cpz g).tg, (cpz g).ix, (cpz g).kids⟩, _, _, rfl, fun h => cpzN_sm g h, dr_fin (N := ⟨(cpz g).k, (cpz g).fr, (cpz g).tg, (cpz g).ix, (cpz g).kids⟩) HP.out.start HP.out.only HP.out.rd (by omega) HG1.out.ow (w.heap.size + 1) (by simp) (fun x hx => by have := HG1.out.ge x hx; omega) HG1.out.nodup ⟨HFC.out.1, HFC.out.2.1, HFC.out.2.2.1, HFC.out.2.2.2⟩ (Nat.le_trans (cpzN_sz g) (Nat.le_succ _)) _ _ _ _ _⟩
end Go.Proofs.YtfppglfajbmapaaDoor

/- l1Format of the model. -/
namespace Go.Proofs.YtfppglfajbmapaaDoor
open Go.RowKit

def FmtAt (n : Nat) : Prop := ∀ (w : World) (k ix b u d : Int) (fr tq : ByteArray) (sv : Value) (kids : F), kids.sz < n → kids.sz ≤ 400 → Sl w sv kids → 0 ≤ b → 0 ≤ u → b + d ≤ 40 → vldN k fr tq ix kids b u d = true →
  Calls Tryd.prog 170 #[.agg #[.int .i64 k, .string fr, .string tq, .int .i64 ix, sv]] w fun e w' => e = .returned (.string (txN k fr tq ix kids)) ∧ Below w.heap.size w w'

set_option maxHeartbeats 400000 in
set_option maxRecDepth 100000 in
theorem fmt_end (w : World) (ix : Int) (fr tq : ByteArray) (sv : Value) (kids : F) (hs : Sl w sv kids) :
    Calls Tryd.prog 170 #[.agg #[.int .i64 1, .string fr, .string tq, .int .i64 ix, sv]] w fun e w' => e = .returned (.string (txN 1 fr tq ix kids)) ∧ Below w.heap.size w w' := by
  obtain ⟨a, cap, rfl, -, -⟩ := hs.at
  clear hs
  go_enter Tryd.func170, Tryd.ntmps170
  go_wp2_with fail
  go_ret
  exact ⟨rfl, alloc_below _ _⟩

set_option maxHeartbeats 400000 in
set_option maxRecDepth 100000 in
theorem fmt_var (w : World) (ix : Int) (fr tq : ByteArray) (sv : Value) (kids : F) (hs : Sl w sv kids) (h0 : 0 ≤ ix) (h1 : ix < 40) :
    Calls Tryd.prog 170 #[.agg #[.int .i64 4, .string fr, .string tq, .int .i64 ix, sv]] w fun e w' => e = .returned (.string (txN 4 fr tq ix kids)) ∧ Below w.heap.size w w' := by
  obtain ⟨a, cap, rfl, -, -⟩ := hs.at
  obtain ⟨i, rfl⟩ := Int.eq_ofNat_of_zero_le h0
  have h2 : (bdec i).size ≤ 2 := by
    have := decDigits_small (i := i) (by omega)
    simpa [bdec, ByteArray.size] using this
  clear hs
  go_enter Tryd.func170, Tryd.ntmps170
  go_wp2_with fail
  refine (dec_calls i (by omega) _).mono ?_
  rintro e w1 ⟨rfl, hb⟩
  change (bdec i).size ≤ 2 at h2
  have e1 : (⟨(Lib.decDigits i).toArray⟩ : ByteArray) = bdec i := rfl
  rw [e1]
  go_wp2_with fail
  go_ret
  exact ⟨rfl, (alloc_below _ _).trans (hb.mono (by simp))⟩

set_option maxHeartbeats 800000 in
set_option maxRecDepth 100000 in
theorem fmt_rec (n : Nat) (ih : FmtAt n) (w : World) (ix b u d : Int) (fr tq : ByteArray) (sv : Value) (kids : F) (hn : kids.sz < n + 1) (hbig : kids.sz ≤ 400) (hs : Sl w sv kids) (hb : 0 ≤ b) (hu : 0 ≤ u) (hbd : b + d ≤ 40)
    (hsh : shapeB 3 fr tq ix kids = true) (hv : vldF kids (b + 1) (u + 1) (d - 1) = true) :
    Calls Tryd.prog 170 #[.agg #[.int .i64 3, .string fr, .string tq, .int .i64 ix, sv]] w fun e w' => e = .returned (.string (txN 3 fr tq ix kids)) ∧ Below w.heap.size w w' := by
  obtain ⟨e1, e2, rfl, lab, k', fr', tq', ix', kids', rfl, e3⟩ := shape_rec hsh
  have hvn : vldN k' fr' tq' ix' kids' (b + 1) (u + 1) (d - 1) = true := by
    simp only [vldF, Bool.and_true] at hv
    exact hv
  have hsz := txN_size (by omega) (by omega) (by omega) hvn
  have hsz2 : (txN k' fr' tq' ix' kids').size ≤ 3000 := by simp only [F.sz] at hbig; omega
  obtain ⟨a, cap, rfl, -, hat⟩ := hs.at
  obtain ⟨b', o', rfl, -, -, -, -, -, d0, d1, d2, d3, d4, ⟨sv', d5, hsv⟩, -⟩ := hat.head
  have hbw := World.block_lt_of_cell? _ _ d0
  simp only [Nat.zero_mul, Nat.add_zero] at d0 d1 d2 d3 d4 d5
  have HSV := hide hsv
  have HV := hide hvn
  have HN := hide hn
  have HB := hide hbig
  clear hs hsh hat hn hbig e1 e2 e3 hsv hv hvn hsz
  change Calls Tryd.prog 170 #[.agg #[.int .i64 3, .string fr, .string tq, .int .i64 0, .slice (some ⟨b', o', none⟩) 1 cap]] w _
  go_enter Tryd.func170, Tryd.ntmps170
  go_wp2_with fail
  refine (ih _ k' ix' (b + 1) (u + 1) (d - 1) fr' tq' _ kids' (by have := HN.out; simp only [F.sz] at this; omega) (by have := HB.out; simp only [F.sz] at this; omega) (HSV.out.still (Still.of_below (alloc_below _ _))) (by omega) (by omega) (by omega) HV.out).mono ?_
  rintro e w1 ⟨rfl, hb⟩
  go_wp2_with fail
  go_ret
  exact ⟨rfl, (alloc_below _ _).trans (hb.mono (by simp))⟩
end Go.Proofs.YtfppglfajbmapaaDoor

/- l1Format of the model: messages; FormatGlobal of the model. -/
namespace Go.Proofs.YtfppglfajbmapaaDoor
open Go.RowKit

set_option maxHeartbeats 800000 in
set_option maxRecDepth 100000 in
theorem fmt_msg (n : Nat) (ih : FmtAt n) (w : World) (ix b u d : Int) (fr tq : ByteArray) (sv : Value) (kids : F) (hn : kids.sz < n + 1) (hbig : kids.sz ≤ 400) (hs : Sl w sv kids) (hb : 0 ≤ b) (hu : 0 ≤ u) (hbd : b + d ≤ 40)
    (hall : vldN 2 fr tq ix kids b u d = true) (hsh : shapeB 2 fr tq ix kids = true) (hv : vldF kids b 0 (d - 1) = true) :
    Calls Tryd.prog 170 #[.agg #[.int .i64 2, .string fr, .string tq, .int .i64 ix, sv]] w fun e w' => e = .returned (.string (txN 2 fr tq ix kids)) ∧ Below w.heap.size w w' := by
  have htot := txN_size hb hu hbd hall
  have htx : fr ++ tq ++ txF kids .first ++ bclose = txN 2 fr tq ix kids := rfl
  obtain ⟨e1, e2, e3, rfl, e5⟩ := shape_msg hsh
  have hfr : fr.size = 1 := role_size e1
  have hto : tq.size = 1 := role_size e2
  obtain ⟨a, cap, rfl, hlen, hat⟩ := hs.at
  unfold maxLen at hlen
  have hb0 := alloc_below w (.cells #[.int .i64 2, .string fr, .string tq, .int .i64 0, .slice a kids.len cap] ( /- t -/ 25))
  obtain ⟨hc4, hsz⟩ := box5_now w (.int .i64 2) (.string fr) (.string tq) (.int .i64 0) (.slice a kids.len cap) ( /- t -/ 25)
  have HA := hide (hat.still (Still.of_below hb0))
  have HN := hide hn
  have HT := hide htot
  have HX := hide htx
  have HV := hide hv
  have HG := hide hbig
  clear hs hsh hat hn htot htx hall hv e1 e2 e3 e5 hbig
  go_enter Tryd.func170, Tryd.ntmps170
  go_wp2_with fail
  generalize (w.alloc (.cells #[.int .i64 2, .string fr, .string tq, .int .i64 0, .slice a kids.len cap] ( /- t -/ 25))) = W at *
  go_loopw [3, 4, 5] (fun ov iv _ wr => ∃ (g : F) (s : ByteArray) (k : Nat), k + g.len = kids.len ∧ ov = .string s ∧ iv = .int .i64 k ∧ g.sz ≤ kids.sz ∧ At W a k g ∧ vldF g b 0 (d - 1) = true ∧ s ++ txF g (md k) ++ bclose = txN 2 fr tq 0 kids ∧ Below W.heap.size W wr) (fun _ iv _ _ => kids.len - (intOf iv).toNat)
  case atStart => exact ⟨kids, fr ++ tq, 0, by omega, rfl, rfl, Nat.le_refl _, HA.out, HV.out, HX.out, Below.refl _ _⟩
  case round =>
    obtain ⟨g, s, k, hk, rfl, rfl, h5, hg, hv, htx, hbw⟩ := hrel
    have hssz : s.size ≤ 3000 := by
      have h1 := HT.out
      have h2 := HG.out
      rw [← htx, ByteArray.size_append, ByteArray.size_append] at h1
      omega
    have e4 := (Still.of_below hbw) _ _ hc4
    have HB := hide (hb0.trans (hbw.mono (Nat.le_of_lt hsz)))
    have HY := hide htx
    have HW := hide hv
    cases g with
    | nil =>
      have H5 : Hid (k = kids.len) := by unfold Hid; simpa [F.len] using hk
      have hge : kids.len ≤ k := Nat.le_of_eq H5.out.symm
      clear hk htx hv
      go_wp2_with fail
      go_ret
      refine ⟨?_, HB.out⟩
      rw [← HY.out]
      exact congrArg (fun x => Ending.returned (Value.string (x ++ bclose))) (bytes_nil s).symm
    | cons lab kd fr' tq' ix' kids' rest =>
      rw [txF_md] at htx
      have hlt : k < kids.len := by simp only [F.len] at hk; omega
      obtain ⟨b', o, rfl, _, _, _, _, _, q0, q1, q2, q3, q4, ⟨sv', q5, hsv⟩, _⟩ := (hg.still (Still.of_below hbw)).head
      have HK := hide hk
      have HX2 := hide htx
      have HS := hide hsv
      have HG2 := hide hg
      have H5 := hide h5
      have hz : s.size + (1 + lab.size + (txN kd fr' tq' ix' kids').size) ≤ 3000 := by
        have h1 := HT.out
        have h2 := HG.out
        rw [← htx] at h1
        simp only [ByteArray.size_append, sepB_size] at h1
        omega
      simp only [vldF, Bool.and_eq_true] at hv
      have HW2 := hide hv
      have hbr := World.block_lt_of_cell? _ _ q0
      have hsd : Still wr wr.drew := fun _ _ h => h
      have HSd := hide (HS.out.still hsd)
      have hz1 : ∀ c : UInt8, (s ++ ⟨#[c]⟩).size = s.size + 1 := fun c => by rw [ByteArray.size_append]; rfl
      have hz2 : ∀ c : UInt8, (s ++ ⟨#[c]⟩ ++ lab).size = s.size + 1 + lab.size := fun c => by rw [ByteArray.size_append, hz1]
      have HZ1 := hide hz1
      have n1 : ∀ (c : UInt8) (W : World), (Op.stringOp .add s ⟨#[c]⟩).run Tryd.prog W = .ok (.string (s ++ ⟨#[c]⟩)) W := fun c W => run_string_add_sum W _ _ (show s.size + 1 ≤ _ by omega)
      have n2 : ∀ (c : UInt8) (W : World), (Op.stringOp .add (s ++ ⟨#[c]⟩) lab).run Tryd.prog W = .ok (.string (s ++ ⟨#[c]⟩ ++ lab)) W := fun c W => run_string_add_sum W _ _ (by rw [hz1]; omega)
      have n3 : ∀ (c : UInt8) (W : World), (Op.stringOp .add (s ++ ⟨#[c]⟩ ++ lab) (txN kd fr' tq' ix' kids')).run Tryd.prog W = .ok (.string (s ++ ⟨#[c]⟩ ++ lab ++ txN kd fr' tq' ix' kids')) W := fun c W => run_string_add_sum W _ _ (by rw [hz2]; omega)
      clear hk h5 hg hsv htx hv HW HY hz1 hz2 hz
      cases hkb : ((k : Int) == 0)
      all_goals go_wp2_with fail
      all_goals
        (go_region_held3 (fun w' => w'.cell? ⟨w.heap.size, 4, none⟩ = some (.slice (some ⟨b', o, none⟩) kids.len cap) ∧ w'.cell? ⟨b', o + k * 6, none⟩ = some (.string lab) ∧ w'.cell? ⟨b', o + k * 6 + 1, none⟩ = some (.int .i64 kd) ∧
            w'.cell? ⟨b', o + k * 6 + 2, none⟩ = some (.string fr') ∧ w'.cell? ⟨b', o + k * 6 + 3, none⟩ = some (.string tq') ∧ w'.cell? ⟨b', o + k * 6 + 4, none⟩ = some (.int .i64 ix') ∧ w'.cell? ⟨b', o + k * 6 + 5, none⟩ = some sv')
          (first | exact ⟨e4, q0, q1, q2, q3, q4, q5⟩ | exact ⟨g4, l0, l1, l2, l3, l4, l5⟩)
          ((first
            | (go_at_call 170; refine (ih _ kd ix' b 0 (d - 1) fr' tq' sv' kids' ?_ ?_ ?_ ?_ ?_ ?_ ?_).mono ?_; (have h1 := H5.out; have h2 := HN.out; simp only [F.sz] at h1; omega); (have h1 := H5.out; have h2 := HG.out; simp only [F.sz] at h1; omega); (exact HSd.out); (exact hb); (omega); (omega); (exact HW2.out.1);
               rintro e w6 ⟨rfl, hb12⟩; have hst := hsd.trans (Still.of_below hb12); have g4 := hst _ _ e4; have l0 := hst _ _ q0; have l1 := hst _ _ q1; have l2 := hst _ _ q2; have l3 := hst _ _ q3; have l4 := hst _ _ q4; have l5 := hst _ _ q5))))
        have hb14 := hbw.drew.trans (hb12.mono hbw.drew.size)
        clear hb12 hst g4 l0 l1 l2 l3 l4 l5
        go_wp2_with fail
        refine ⟨⟨rest, s ++ sepB k ++ lab ++ txN kd fr' tq' ix' kids', k + 1, ?_, ?_, by go_num, ?_, HG2.out.tail, HW2.out.2, ?_, ?_⟩, by simp [intOf]; omega⟩
        · have := HK.out
          simp only [F.len] at this
          omega
        · by_cases hk0 : k = 0
          · first
            | (exfalso; rw [hk0] at hkb; simp at hkb; done)
            | (unfold sepB; rw [if_pos hk0]; rfl)
          · first
            | (exfalso; have h9 := beq_iff_eq.1 hkb; omega)
            | (unfold sepB; rw [if_neg hk0]; rfl)
        · have := H5.out
          simp only [F.sz] at this
          omega
        · rw [← HX2.out]
          simp only [bytes_assoc]
        · exact hb14

theorem fmt_all : ∀ n, FmtAt n := by
  intro n
  induction n with
  | zero => intro w k ix b u d fr tq sv kids hn; omega
  | succ n ih =>
    intro w k ix b u d fr tq sv kids hn hbig hs hb hu hbd hv
    have hv2 := hv
    unfold vldN at hv2
    obtain ⟨hd, hsh, hk⟩ := node_kinds hu hv2
    rcases hk with rfl | ⟨rfl, h0, h1, -⟩ | ⟨rfl, h3⟩ | ⟨rfl, h2⟩
    · exact fmt_end w ix fr tq sv kids hs
    · exact fmt_var w ix fr tq sv kids hs h0 (by omega)
    · exact fmt_rec n ih w ix b u d fr tq sv kids hn hbig hs hb hu hbd hsh h3
    · exact fmt_msg n ih w ix b u d fr tq sv kids hn hbig hs hb hu hbd hv hsh h2

set_option maxHeartbeats 400000 in
set_option maxRecDepth 100000 in
/-- FormatGlobal of the model. -/
theorem specFormat (w : World) (k ix : Int) (fr tq : ByteArray) (sv : Value) (kids : F) (hs : Sl w sv kids) (hbig : kids.sz ≤ 1048576) :
    Calls Tryd.prog 140 #[.agg #[.int .i64 k, .string fr, .string tq, .int .i64 ix, sv]] w fun e w' => e = .returned (.string (textN k fr tq ix kids)) ∧ Below w.heap.size w w' := by
  have HS := hide hs
  clear hs
  go_enter Tryd.func140, Tryd.ntmps140
  go_wp2_with fail
  refine (specValid _ k ix fr tq sv kids (HS.out.still (Still.of_below (alloc_below _ _))) hbig).mono ?_
  rintro e w1 ⟨rfl, hb⟩
  obtain ⟨c0, c1, c2, c3, c4, hlt, hb2⟩ := box5 hb
  clear hb
  cases hv : okN k fr tq ix kids with
  | false =>
    go_wp2_with fail
    go_ret
    refine ⟨?_, hb2⟩
    unfold textN
    rw [hv]
    rfl
  | true =>
    have HV := hide hv
    have h2 := hv
    unfold okN at h2
    simp only [Bool.and_eq_true, decide_eq_true_eq] at h2
    have H2 := hide h2
    clear hv h2
    go_wp2_with fail
    refine (fmt_all (kids.sz + 1) _ k ix 0 0 40 fr tq sv kids (Nat.lt_succ_self _) (by have := H2.out.2; omega) (HS.out.still (Still.of_below hb2)) (by omega) (by omega) (by omega) H2.out.1).mono ?_
    rintro e w2 ⟨rfl, hb3⟩
    have hb4 := hb2.trans (hb3.mono hb2.size)
    clear hb3
    go_wp2_with fail
    go_ret
    refine ⟨?_, hb4⟩
    unfold textN
    rw [HV.out]
    rfl
end Go.Proofs.YtfppglfajbmapaaDoor
