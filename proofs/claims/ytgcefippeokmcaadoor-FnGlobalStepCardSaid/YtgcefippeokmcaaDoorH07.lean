/- Dl, Qh, Mp, Qv, Qc, Qj, Ch, Bl, Br, Ri, In, Rs, Wt, Wm, Fi, Rq, Es -/
import Derived.Test.YtgcefippeokmcaaDoorH06
import Derived.Test.YtgcefippeokmcaaDoorH05
import Derived.Test.YtgcefippeokmcaaDoorH03
import Derived.Test.YtgcefippeokmcaaDoorH00
import Derived.StillTailTactics
import Derived.Test.YtgcefippeokmcaaDoorRows
import Derived.Test.YtgcefippeokmcaaDoorProg
import Derived.Maps.Own
import Derived.Maps.OwnOps
import Derived.LaidEqlPtr
import Derived.Laws.StructEq
import Derived.Handy
import Derived.Deep.LoopGhost
import Derived.Deep.AppendLies
import Derived.Deep.RegionHeld3
import Derived.Test.YtgcefippeokmcaaDoorH02
import Derived.Test.YtgcefippeokmcaaDoorShelf
import Derived.Shelf.Strings.BuilderK
import Derived.Shelf.Strings.BuilderRune
import Derived.WalkKit
import Derived.WalkSpells
import Derived.WalkLawsBesides
import Derived.Lib.UnsafeStr
import Derived.Lib.IndexAny
import Derived.Laws.IdiomStrings
import Derived.RegionTactic
/- ParseGlobal, l1Global and l1Draw of the model: a tree in memory of its own. -/
namespace Go.Proofs.YtgcefippeokmcaaDoor
open Go.RowKit

theorem wk_all (s : ByteArray) (hs : s.size ≤ 1048576) : ∀ d : Nat, d ≤ 40 → WkAt s d := by
  intro d
  induction d with
  | zero => intro _ w p hp; exact wk_zero s w p hp
  | succ d ih =>
    intro hd w p hp
    have := wk_succ s hs d (by omega) (ih (by omega)) (ms_calls s hs d (by omega) (ih (by omega))) w p hp
    rw [show ((d + 1 : Nat) : Int) = (d : Int) + 1 by omega]
    exact this
/-- Some tree in new memory, and a flag. -/
def PgP (s : ByteArray) (w : World) (e : Ending) (w' : World) : Prop :=
  ∃ (N : Nd) (u : Value) (bs : List Nat) (ok : Bool), e = .returned (.tuple #[.agg #[.int .i64 N.k, .string N.fr, .string N.tg, .int .i64 N.ix, u], .bool ok]) ∧ Ow w' u N.kids bs ∧ (∀ b, b ∈ bs → w.heap.size ≤ b) ∧ bs.Nodup ∧ Below w.heap.size w w' ∧ Fit N ∧ N.kids.sz ≤ s.size
theorem pg_set {s : ByteArray} {w w2 : World} {N : Nd} {u : Value} {bs : List Nat} {ok : Bool} (how : Ow w2 u N.kids bs) (hge : ∀ x, x ∈ bs → w.heap.size < x) (hnd : bs.Nodup) (hb : Below w.heap.size w w2) (hf : Fit N) (hs : N.kids.sz ≤ s.size) (v0 v1 v2 v3 v4 : Value) :
    PgP s w (.returned (.tuple #[.agg #[.int .i64 N.k, .string N.fr, .string N.tg, .int .i64 N.ix, u], .bool ok])) (((((w2.setCell ⟨w.heap.size, 0, none⟩ v0).setCell ⟨w.heap.size, 1, none⟩ v1).setCell ⟨w.heap.size, 2, none⟩ v2).setCell ⟨w.heap.size, 3, none⟩ v3).setCell ⟨w.heap.size, 4, none⟩ v4) := by
  have hne : ∀ x, x ≠ w.heap.size → (((((w2.setCell ⟨w.heap.size, 0, none⟩ v0).setCell ⟨w.heap.size, 1, none⟩ v1).setCell ⟨w.heap.size, 2, none⟩ v2).setCell ⟨w.heap.size, 3, none⟩ v3).setCell ⟨w.heap.size, 4, none⟩ v4).heap[x]? = w2.heap[x]? := fun x hx =>
    (Below.heap_setCell _ _ _ _ hx).trans ((Below.heap_setCell _ _ _ _ hx).trans ((Below.heap_setCell _ _ _ _ hx).trans ((Below.heap_setCell _ _ _ _ hx).trans (Below.heap_setCell _ _ _ _ hx))))
  exact ⟨N, u, bs, ok, rfl, how.same (fun x hx => hne x (by have := hge x hx; omega)), fun x hx => Nat.le_of_lt (hge x hx), hnd, ((((hb.setCell (Nat.le_refl _) _).setCell (Nat.le_refl _) _).setCell (Nat.le_refl _) _).setCell (Nat.le_refl _) _).setCell (Nat.le_refl _) _, hf, hs⟩

set_option maxHeartbeats 1600000 in
set_option maxRecDepth 100000 in
theorem parseG (w : World) (s : ByteArray) (hs : s.size ≤ 1048576) : Calls Tryd.prog 57 #[.string s] w (PgP s w) := by
  have HP := hide (wk_all s hs 40 (by omega))
  go_enter Tryd.func57, Tryd.ntmps57
  go_wp2_with fail
  have hx := Box5.now w (.int .i64 0) (.string ⟨#[]⟩) (.string ⟨#[]⟩) (.int .i64 0) (.slice none 0 0) ( /- t -/ 39)
  have hb1 := alloc_below w (.cells #[.int .i64 0, .string ⟨#[]⟩, .string ⟨#[]⟩, .int .i64 0, .slice none 0 0] ( /- t -/ 39))
  have hw1 : w.heap.size < (w.alloc (.cells #[.int .i64 0, .string ⟨#[]⟩, .string ⟨#[]⟩, .int .i64 0, .slice none 0 0] ( /- t -/ 39))).heap.size := by simp
  generalize w.alloc (.cells #[.int .i64 0, .string ⟨#[]⟩, .string ⟨#[]⟩, .int .i64 0, .slice none 0 0] ( /- t -/ 39)) = W at *
  refine (HP.out W 0 (Nat.zero_le _)).mono ?_
  rintro e w4 ⟨N, u, bs, nx, rfl, how, hge, hnd, hb4, hf, hn⟩
  obtain ⟨ua, uc, rfl⟩ := how.val
  have HX4 := hide ((hx.below hb4).below (alloc_below w4 (.cells #[.int .i64 N.k, .string N.fr, .string N.tg, .int .i64 N.ix, .slice ua N.kids.len uc] ( /- t -/ 39))))
  have HB4 := hide ((hb1.trans (hb4.mono hb1.size)).alloc (Nat.le_trans hb1.size hb4.size) (.cells #[.int .i64 N.k, .string N.fr, .string N.tg, .int .i64 N.ix, .slice ua N.kids.len uc] ( /- t -/ 39)))
  have HN4 := hide (Box5.now w4 (.int .i64 N.k) (.string N.fr) (.string N.tg) (.int .i64 N.ix) (.slice ua N.kids.len uc) ( /- t -/ 39))
  have HOW := hide (how.same (Same.of_below (alloc_below w4 (.cells #[.int .i64 N.k, .string N.fr, .string N.tg, .int .i64 N.ix, .slice ua N.kids.len uc] ( /- t -/ 39))) how.lt))
  have HGE : Hid (∀ x, x ∈ bs → w.heap.size < x) := hide (fun x hx => by have := hge x hx; omega)
  have HND := hide hnd
  have HF := hide hf
  have hsz : N.kids.sz ≤ s.size := by rcases hn with ⟨-, h⟩ | ⟨q, -, -, h1, h2⟩ <;> omega
  clear hx hb1 how hge hnd hb4 hf
  go_upto_region 2 with fail
  generalize w4.alloc (.cells #[.int .i64 N.k, .string N.fr, .string N.tg, .int .i64 N.ix, .slice ua N.kids.len uc] ( /- t -/ 39)) = W4 at *
  generalize w4.heap.size = b4 at *
  obtain ⟨x0, x1, x2, x3, x4⟩ := HX4.out.cells
  have fx := HX4.out.frozen
  have lx := HX4.out.lt
  obtain ⟨y0, y1, y2, y3, y4⟩ := HN4.out.cells
  have ly := HN4.out.lt
  by_cases hq : nx = (s.size : Int)
  case neg =>
    go_wp2_with fail
    refine bodyPost_ret (v := .tuple #[.agg #[.int .i64 0, .string ⟨#[]⟩, .string ⟨#[]⟩, .int .i64 0, .slice none 0 0], .bool false]) (by simp [results, Tryd.results57, go_sem, *]) rfl ?_
    exact pg_set (N := ⟨0, ⟨#[]⟩, ⟨#[]⟩, 0, .nil⟩) (bs := []) ⟨none, 0, rfl, Nat.le_refl _, Nat.zero_le _, Or.inl ⟨rfl, rfl⟩⟩ (fun x hx => absurd hx List.not_mem_nil) List.nodup_nil HB4.out ⟨Nat.zero_le _, Nat.zero_le _, show (Lit.int .i64 0).wf = true by decide, show (Lit.int .i64 0).wf = true by decide⟩ (Nat.zero_le _) _ _ _ _ _
  case pos =>
    subst hq
    have hs0 : 0 < s.size := by
      rcases hn with ⟨h, -⟩ | ⟨q, h, h1, -, -⟩ <;> omega
    have hne1 : ¬ s.toList = [] := fun h => by
      rw [ByteArray.toList_eq] at h
      have h3 : s.data.toList.length = s.size := Array.length_toList
      rw [h] at h3
      have h4 : ([] : List UInt8).length = 0 := rfl
      omega
    have he : s.toList.isEmpty = false := by
      cases h : s.toList with
      | nil => exact absurd h hne1
      | cons a b => rfl
    clear hn
    go_wp2_with fail
    refine (specFormat W4 N.k N.ix N.fr N.tg (.slice ua N.kids.len uc) N.kids HOW.out.sl (by omega)).mono ?_
    rintro e w2 ⟨rfl, hb⟩
    have HX2 := hide (HX4.out.below hb)
    have HN2 := hide (HN4.out.below hb)
    have HB2 := hide (HB4.out.trans (hb.mono HB4.out.size))
    have HOW2 := hide (HOW.out.same (Same.of_below hb HOW.out.lt))
    clear hb x0 x1 x2 x3 x4 fx lx y0 y1 y2 y3 y4 ly HX4 HN4 HB4 HOW
    obtain ⟨x0, x1, x2, x3, x4⟩ := HX2.out.cells
    have fx := HX2.out.frozen
    have lx := HX2.out.lt
    obtain ⟨y0, y1, y2, y3, y4⟩ := HN2.out.cells
    have ly := HN2.out.lt
    by_cases heq : textN N.k N.fr N.tg N.ix N.kids = s
    · rw [heq]
      clear heq
      go_wp2_with fail
      refine bodyPost_ret (v := .tuple #[.agg #[.int .i64 N.k, .string N.fr, .string N.tg, .int .i64 N.ix, .slice ua N.kids.len uc], .bool true]) (by simp [results, Tryd.results57, go_sem, *]) rfl ?_
      exact pg_set HOW2.out HGE.out HND.out HB2.out HF.out hsz _ _ _ _ _
    · have hnb : ((textN N.k N.fr N.tg N.ix N.kids).toList == s.toList) = false := beq_eq_false_iff_ne.2 (fun h => heq (by
        rw [ByteArray.toList_eq, ByteArray.toList_eq] at h
        exact ByteArray.ext (Array.toList_inj.1 h)))
      generalize textN N.k N.fr N.tg N.ix N.kids = tt at *
      clear heq
      go_wp2_with fail
      refine bodyPost_ret (v := .tuple #[.agg #[.int .i64 0, .string ⟨#[]⟩, .string ⟨#[]⟩, .int .i64 0, .slice none 0 0], .bool false]) (by simp [results, Tryd.results57, go_sem, *]) rfl ?_
      exact pg_set (N := ⟨0, ⟨#[]⟩, ⟨#[]⟩, 0, .nil⟩) (bs := []) ⟨none, 0, rfl, Nat.le_refl _, Nat.zero_le _, Or.inl ⟨rfl, rfl⟩⟩ (fun x hx => absurd hx List.not_mem_nil) List.nodup_nil HB2.out ⟨Nat.zero_le _, Nat.zero_le _, show (Lit.int .i64 0).wf = true by decide, show (Lit.int .i64 0).wf = true by decide⟩ (Nat.zero_le _) _ _ _ _ _

set_option maxHeartbeats 800000 in
theorem exa_calls (w : World) (v : Nat) (hv : v < 10) : Calls Tryd.prog 130 #[.int .i64 (v : Int)] w fun e w' => (∃ s : ByteArray, s.size ≤ 100 ∧ e = .returned (.string s)) ∧ w' = w := by
  have h : v = 0 ∨ v = 1 ∨ v = 2 ∨ v = 3 ∨ v = 4 ∨ v = 5 ∨ v = 6 ∨ v = 7 ∨ v = 8 ∨ v = 9 := by omega
  rcases h with rfl | rfl | rfl | rfl | rfl | rfl | rfl | rfl | rfl | rfl
  all_goals
    (go_enter Tryd.func130, Tryd.ntmps130
     go_wp2_with fail
     go_ret
     exact ⟨⟨_, by decide, rfl⟩, rfl⟩)

theorem sl4i (w : World) (s0 s1 s2 s3 : Int) (t : TypeId) :
    SlG elI64 (w.alloc (.cells #[.int .i64 s0, .int .i64 s1, .int .i64 s2, .int .i64 s3] t)) (.slice (some ⟨w.heap.size, 0, none⟩) 4 4) [s0, s1, s2, s3] := by
  have hh := heap_new w (.cells #[.int .i64 s0, .int .i64 s1, .int .i64 s2, .int .i64 s3] t)
  refine ⟨_, 4, rfl, Nat.le_refl _, by unfold maxLen; omega, Or.inr ⟨w.heap.size, 0, rfl, ?_, ?_, ?_, ?_, trivial⟩⟩
  all_goals (show World.cell? _ _ = _; rw [cell_of_heap hh]; rfl)
theorem size_all {fr : ByteArray} {L : List ByteArray} (n : Nat) (h : fr ∈ L) (hL : L.all (fun s => decide (s.size ≤ n)) = true) : fr.size ≤ n := of_decide_eq_true (List.all_eq_true.1 hL fr h)
theorem qs_le4 {D : Nat} (h : D ≤ 4) : qs D ≤ 2304 ∧ zs D ≤ 120 := by
  have : D = 0 ∨ D = 1 ∨ D = 2 ∨ D = 3 ∨ D = 4 := by omega
  rcases this with rfl | rfl | rfl | rfl | rfl <;> decide

set_option maxHeartbeats 2000000 in
set_option maxRecDepth 100000 in
theorem local_calls (w : World) (rb : Nat) (cv : Value) (l : List Nat) (p : Nat) (h : Rd w rb cv l p) (hp : p + 3000 ≤ 1000000) :
    Calls Tryd.prog 90 #[.pointer (some ⟨rb, 0, none⟩)] w (DrP (fun _ => True) w rb cv l p 2310 400) := by
  have hrb := h.lt
  have HS := hide (St.new h ( /- t -/ 39))
  clear h
  go_enter Tryd.func90, Tryd.ntmps90
  go_upto_region 1 with fail
  generalize w.alloc (.cells #[.int .i64 0, .string ⟨#[]⟩, .string ⟨#[]⟩, .int .i64 0, .slice none 0 0] ( /- t -/ 39)) = W at *
  go_wp2_with fail
  refine (pick_calls _ rb cv l _ HS.out.rd (by omega) 2 (by omega)).mono ?_
  rintro e w1 ⟨v, rfl, hv, hask⟩
  have H1 := hide (HS.out.ask hask)
  clear hask HS
  by_cases hv0 : v = 0
  case pos =>
    subst hv0
    go_wp2_with fail
    refine (pick_calls _ rb cv l _ H1.out.rd (by omega) 10 (by omega)).mono ?_
    rintro e w2 ⟨vx, rfl, hvx, hask⟩
    have H2 := hide (H1.out.ask hask)
    clear hask
    go_wp2_with fail
    refine (exa_calls w2 vx (by omega)).mono ?_
    rintro e w2' ⟨⟨s, hsz, rfl⟩, hw2⟩
    subst hw2
    go_wp2_with fail
    refine (parseG _ s (by omega)).mono ?_
    rintro e w3 ⟨N, u, bs, ok, rfl, how, hge, hnd, hb, hf, hns⟩
    have HO := hide (And.intro hf hns)
    clear hf hns
    obtain ⟨ua, uc, rfl⟩ := how.val
    have H3 := hide (H2.out.below hb)
    have HOW := hide how
    have HGE : Hid (∀ x, x ∈ bs → w.heap.size < x) := hide (fun x hx => by have h1 := hge x hx; have h2 := H2.out.box.lt; omega)
    have HND := hide hnd
    obtain ⟨x0, x1, x2, x3, x4⟩ := H3.out.box.cells
    have fx := H3.out.box.frozen
    have lx := H3.out.box.lt
    clear how hge hnd hb
    go_wp2_with fail
    try rw [set5_alloc _ _ _ _ _ _ _ _ lx]
    have H4 := hide (H3.out.alloc (.cells #[.int .i64 N.k, .string N.fr, .string N.tg, .int .i64 N.ix, .slice ua N.kids.len uc] ( /- t -/ 39)))
    have HOW4 := hide (HOW.out.same (Same.of_below (alloc_below w3 (.cells #[.int .i64 N.k, .string N.fr, .string N.tg, .int .i64 N.ix, .slice ua N.kids.len uc] ( /- t -/ 39))) HOW.out.lt))
    refine bodyPost_ret (v := .agg #[.int .i64 N.k, .string N.fr, .string N.tg, .int .i64 N.ix, .slice ua N.kids.len uc]) (by simp [results, Tryd.results90, go_sem, *]) rfl ?_
    exact ⟨⟨N.k, N.fr, N.tg, N.ix, N.kids⟩, _, bs, rfl, trivial, dr_fin (N := ⟨N.k, N.fr, N.tg, N.ix, N.kids⟩) H4.out.start H4.out.only H4.out.rd (by omega) HOW4.out w.heap.size (Nat.le_refl _) HGE.out HND.out HO.out.1 (Nat.le_trans HO.out.2 (by omega)) _ _ _ _ _⟩
  case neg =>
    have hv1 : ((v : Int) == 0) = false := beq_eq_false_iff_ne.2 (by omega)
    have hv2 : ¬ (v : Int) = 0 := by omega
    go_wp2_with fail
    have HA0 := hide (H1.out.alloc (.cells #[.int .i64 3, .int .i64 2, .int .i64 4, .int .i64 1] ( /- t -/ 3)))
    refine (num_calls _ rb cv l _ HA0.out.rd (by omega) [3, 2, 4, 1] _ (sl4i w1 _ _ _ _ ( /- t -/ 3)) (by decide) (by decide) (new_far H1.out.rd.lt)).mono ?_
    rintro e w2 ⟨nv, hnv, rfl, hask⟩
    have H2 := hide (HA0.out.ask hask)
    have hD : ∃ D : Nat, D ≤ 4 ∧ nv = (D : Int) := by
      simp only [List.mem_cons, List.not_mem_nil, or_false] at hnv
      exact ⟨nv.toNat, by omega, by omega⟩
    obtain ⟨D, hD4, rfl⟩ := hD
    obtain ⟨hq, hz⟩ := qs_le4 hD4
    clear hask HA0 hnv
    go_wp2_with fail
    refine (rand_all D (by omega) w2 rb cv l _ H2.out.rd (by omega) 0 0 (by omega) (by omega) (by omega)).mono ?_
    rintro e w3 ⟨N, un, bs, rfl, hqn, hdr⟩
    obtain ⟨ua, uc, rfl⟩ := hdr.own.val
    obtain ⟨p', hp', hrd⟩ := hdr.rd
    have H3 := hide (H2.out.on hdr.only hrd)
    have HDR := hide hdr
    obtain ⟨x0, x1, x2, x3, x4⟩ := H3.out.box.cells
    have fx := H3.out.box.frozen
    have lx := H3.out.box.lt
    clear hdr hrd
    go_wp2_with fail
    refine bodyPost_ret (v := .agg #[.int .i64 N.k, .string N.fr, .string N.tg, .int .i64 N.ix, .slice ua N.kids.len uc]) (by simp [results, Tryd.results90, go_sem, *]) rfl ?_
    exact ⟨N, _, bs, rfl, trivial, dr_fin H3.out.start H3.out.only H3.out.rd (by omega) HDR.out.own w.heap.size (Nat.le_refl _) (fun x hx => by have h1 := HDR.out.ge x hx; have h2 := H2.out.box.lt; omega) HDR.out.nd HDR.out.fit (Nat.le_trans HDR.out.sz (by omega)) _ _ _ _ _⟩

/-- A drawn tree: memory of its own, of moderate size. -/
def Drawn (w : World) (e : Ending) (w' : World) : Prop :=
  ∃ (N : Nd) (u : Value) (bs : List Nat), e = .returned (.agg #[.int .i64 N.k, .string N.fr, .string N.tg, .int .i64 N.ix, u]) ∧ Ow w' u N.kids bs ∧ (∀ b, b ∈ bs → w.heap.size ≤ b) ∧ bs.Nodup ∧ Below w.heap.size w w' ∧ Fit N ∧ N.kids.sz ≤ 500

theorem drawn_set {w w2 : World} {N : Nd} {u : Value} {bs : List Nat} (how : Ow w2 u N.kids bs) (hge : ∀ x, x ∈ bs → w.heap.size < x) (hnd : bs.Nodup) (hb : Below w.heap.size w w2) (hf : Fit N) (hs : N.kids.sz ≤ 500) (v0 v1 v2 v3 v4 : Value) :
    Drawn w (.returned (.agg #[.int .i64 N.k, .string N.fr, .string N.tg, .int .i64 N.ix, u])) (((((w2.setCell ⟨w.heap.size, 0, none⟩ v0).setCell ⟨w.heap.size, 1, none⟩ v1).setCell ⟨w.heap.size, 2, none⟩ v2).setCell ⟨w.heap.size, 3, none⟩ v3).setCell ⟨w.heap.size, 4, none⟩ v4) := by
  have hne : ∀ x, x ≠ w.heap.size → (((((w2.setCell ⟨w.heap.size, 0, none⟩ v0).setCell ⟨w.heap.size, 1, none⟩ v1).setCell ⟨w.heap.size, 2, none⟩ v2).setCell ⟨w.heap.size, 3, none⟩ v3).setCell ⟨w.heap.size, 4, none⟩ v4).heap[x]? = w2.heap[x]? := fun x hx =>
    (Below.heap_setCell _ _ _ _ hx).trans ((Below.heap_setCell _ _ _ _ hx).trans ((Below.heap_setCell _ _ _ _ hx).trans ((Below.heap_setCell _ _ _ _ hx).trans (Below.heap_setCell _ _ _ _ hx))))
  exact ⟨N, u, bs, rfl, how.same (fun x hx => hne x (by have := hge x hx; omega)), fun x hx => Nat.le_of_lt (hge x hx), hnd, ((((hb.setCell (Nat.le_refl _) _).setCell (Nat.le_refl _) _).setCell (Nat.le_refl _) _).setCell (Nat.le_refl _) _).setCell (Nat.le_refl _) _, hf, hs⟩

set_option maxHeartbeats 2000000 in
set_option maxRecDepth 100000 in
theorem draw_calls (w : World) (sv : Value) (l : List Nat) (hs : SlG elY w sv l) : Calls Tryd.prog 81 #[sv] w (Drawn w) := by
  have HSV := hide hs
  clear hs
  go_enter Tryd.func81, Tryd.ntmps81
  go_upto_region 1 with fail
  have hx0 := Box5.now w (.int .i64 0) (.string ⟨#[]⟩) (.string ⟨#[]⟩) (.int .i64 0) (.slice none 0 0) ( /- t -/ 39)
  have hb0 := alloc_below w (.cells #[.int .i64 0, .string ⟨#[]⟩, .string ⟨#[]⟩, .int .i64 0, .slice none 0 0] ( /- t -/ 39))
  have hz0 : (w.alloc (.cells #[.int .i64 0, .string ⟨#[]⟩, .string ⟨#[]⟩, .int .i64 0, .slice none 0 0] ( /- t -/ 39))).heap.size = w.heap.size + 1 := by simp
  generalize w.alloc (.cells #[.int .i64 0, .string ⟨#[]⟩, .string ⟨#[]⟩, .int .i64 0, .slice none 0 0] ( /- t -/ 39)) = W at *
  have HX0 := hide hx0
  have HB0 := hide hb0
  have HZ0 := hide hz0
  clear hx0 hb0 hz0
  go_wp2_with fail
  refine (open_rd W sv l (HSV.out.still (Still.of_below HB0.out))).mono ?_
  rintro e w1 ⟨cv, l', rfl, hrd, hb, hz⟩
  have HX1 := hide (HX0.out.below hb)
  have HB1 := hide (HB0.out.trans (hb.mono (by have := HZ0.out; omega)))
  have HRD := hide hrd
  have HZ1 := hide hz
  have hrbz : w.heap.size < W.heap.size := by have := HZ0.out; omega
  clear hrd hb hz HX0 HB0 HZ0
  generalize W.heap.size = rb at *
  go_wp2_with fail
  refine (local_calls w1 rb cv l' 0 HRD.out (by omega)).mono ?_
  rintro e w2 ⟨N, u, bs, rfl, hq, hdr⟩
  obtain ⟨ua, uc, rfl⟩ := hdr.own.val
  obtain ⟨p', hp', hrd2⟩ := hdr.rd
  have HX2 := hide (HX1.out.same (hdr.only.block _ HX1.out.lt (by omega)))
  have HB2 := hide (HB1.out.trans (hdr.only.to_below (B := w.heap.size) (by omega) (by have := HX1.out.lt; omega)))
  have HDR := hide hdr
  have HRD2 := hide hrd2
  have hw2 : w.heap.size < w2.heap.size := HX2.out.lt
  clear hdr hrd2 HX1 HB1 HRD
  go_wp2_with fail
  refine (mut_calls w2 rb cv l' p' HRD2.out (by omega) N _ HDR.out.own.sl HDR.out.fit (by have := HDR.out.sz; omega)).mono ?_
  rintro e w3 ⟨N3, u3, bs3, rfl, hq3, hdr3⟩
  obtain ⟨va, vc, rfl⟩ := hdr3.own.val
  have HX3 := hide (HX2.out.same (hdr3.only.block _ HX2.out.lt (by omega)))
  have HB3 := hide (HB2.out.trans (hdr3.only.to_below (B := w.heap.size) (by omega) (by omega)))
  have HD3 := hide hdr3
  obtain ⟨x0, x1, x2, x3, x4⟩ := HX3.out.cells
  have fx := HX3.out.frozen
  have lx := HX3.out.lt
  clear hdr3 HX2 HB2
  go_wp2_with fail
  refine bodyPost_ret (v := .agg #[.int .i64 N3.k, .string N3.fr, .string N3.tg, .int .i64 N3.ix, .slice va N3.kids.len vc]) (by simp [results, Tryd.results81, go_sem, *]) rfl ?_
  exact drawn_set HD3.out.own (fun x hx => by have := HD3.out.ge x hx; omega) HD3.out.nd HB3.out HD3.out.fit (by have h1 := HD3.out.sz; have h2 := HDR.out.sz; omega) _ _ _ _ _
end Go.Proofs.YtgcefippeokmcaaDoor

/- When two trees are equal, as a Boolean. -/
namespace Go.Proofs.YtgcefippeokmcaaDoor
open Go.RowKit

def headB (k : Int) (fr tq : ByteArray) (ix : Int) (l : Nat) (k' : Int) (fr' tq' : ByteArray) (ix' : Int) (l' : Nat) : Bool :=
  (k == k') && ((fr.toList == fr'.toList) && ((tq.toList == tq'.toList) && ((ix == ix') && (l == l'))))
def sameF : F → F → Bool
  | .nil, .nil => true
  | .cons lab k fr tq ix kids rest, .cons lab' k' fr' tq' ix' kids' rest' =>
    (lab.toList == lab'.toList) && ((headB k fr tq ix kids.len k' fr' tq' ix' kids'.len && sameF kids kids') && sameF rest rest')
  | _, _ => false
def sameN (k : Int) (fr tq : ByteArray) (ix : Int) (f : F) (k' : Int) (fr' tq' : ByteArray) (ix' : Int) (f' : F) : Bool :=
  headB k fr tq ix f.len k' fr' tq' ix' f'.len && sameF f f'

theorem headB_no {k ix : Int} {fr tq fr' tq' : ByteArray} {l l' : Nat} (h : headB k fr tq ix l k fr' tq' ix l' = false) (e1 : fr.toList = fr'.toList) (e2 : tq.toList = tq'.toList) (e3 : ((l : Int) != (l' : Int)) = false) : False := by
  have e4 : l = l' := by
    have : (l : Int) = l' := by simpa using e3
    omega
  simp [headB, e1, e2, e4] at h
end Go.Proofs.YtgcefippeokmcaaDoor

/- A set of pairs of branch slices in a map that the call makes: what a look-up finds, what a store adds. -/
namespace Go.Proofs.YtgcefippeokmcaaDoor
open Go.RowKit

/-- A block of cells that nobody has frozen. -/
def Good (w : World) (b : Nat) : Prop := ∃ cs t, w.heap[b]? = some (.cells cs t (0, 0))
theorem Good.same {w w' : World} {b : Nat} (h : Good w b) (e : w'.heap[b]? = w.heap[b]?) : Good w' b := by
  obtain ⟨cs, t, h⟩ := h
  exact ⟨cs, t, e.trans h⟩
theorem Good.lt {w : World} {b : Nat} (h : Good w b) : b < w.heap.size := by
  obtain ⟨cs, t, h⟩ := h
  exact (Array.getElem?_eq_some_iff.1 h).1
theorem Good.below {w w' : World} {b : Nat} (h : Good w b) (hb : Below w.heap.size w w') : Good w' b := h.same (hb.block _ h.lt)

/-- Two addresses and a length. -/
structure Ky where
  p : Nat
  q : Nat
  n : Nat
def Ky.val (x : Ky) : Value := .agg #[.pointer (some ⟨x.p, 0, none⟩), .pointer (some ⟨x.q, 0, none⟩), .int .i64 x.n]
def Ky.same (x y : Ky) : Bool := (x.p == y.p) && ((x.q == y.q) && (x.n == y.n))
def Ky.Good (w : World) (x : Ky) : Prop := YtgcefippeokmcaaDoor.Good w x.p ∧ YtgcefippeokmcaaDoor.Good w x.q

theorem run_eq_ptr {P : Program} (w : World) (d : Nat) {tp te : TypeId} {j : TypeInfo} (a b : Nat) (hp : P.underlying tp = some (.pointer te)) (hte : P.info? te = some j) (hsz : j.size ≠ 0) (ha : Good w a) (hb : Good w b) :
    (Op.equalIn (d + 1) tp (.pointer (some ⟨a, 0, none⟩)) (.pointer (some ⟨b, 0, none⟩))).run P w = .ok (a == b) w := by
  obtain ⟨ca, ta, ha⟩ := ha
  obtain ⟨cb, tb, hb⟩ := hb
  by_cases h : a = b
  · subst h
    simp [Op.equalIn, run_underlying hp, sizeOf, typeInfo, hte, run_sameAddr_same]
  · have hne : (⟨a, 0, none⟩ : Addr) ≠ ⟨b, 0, none⟩ := by exact fun e => h (congrArg Addr.block e)
    simp [Op.equalIn, run_underlying hp, sizeOf, typeInfo, hte, hsz, run_sameAddr_other w hne ha hb, h]

theorem infoB : (Tryd.prog.info? ( /- t -/ 54)).map (fun i => i.size) = some 6 := by kernel_rfl
theorem keyU : Tryd.prog.underlying ( /- t -/ 182) = some (.struct (Tryd.prog.fieldsOf ( /- t -/ 182))) := by kernel_rfl
theorem keyS : Tryd.prog.stoodInHeld ( /- t -/ 182) = false := by kernel_rfl

theorem ky_equal (w : World) (x y : Ky) (hx : x.Good w) (hy : y.Good w) : (Op.equal ( /- t -/ 182) x.val y.val).run Tryd.prog w = .ok (x.same y) w := by
  obtain ⟨j, hj, hs⟩ : ∃ j, Tryd.prog.info? ( /- t -/ 54) = some j ∧ j.size ≠ 0 := by
    have := infoB
    cases h : Tryd.prog.info? ( /- t -/ 54) with
    | none => rw [h] at this; cases this
    | some i => rw [h] at this; exact ⟨i, rfl, by simp at this; omega⟩
  unfold Op.equal Ky.val
  rw [show Op.maxDepth = 9999 + 1 from rfl, run_equalIn_agg w 9999 _ _ _ keyU keyS]
  simp only [Program.fieldsOf, Tryd.underlying182]
  simp only [Op.eqFields]
  go_simp
  rw [run_eq_ptr w 9998 x.p y.p Tryd.underlying180 hj hs hx.1 hy.1]
  simp only [Result.andThen_ok]
  rw [run_eq_ptr w 9998 x.q y.q Tryd.underlying180 hj hs hx.2 hy.2]
  simp only [Result.andThen_ok, Ky.same]
  cases h1 : (x.p == y.p) <;> cases h2 : (x.q == y.q) <;> by_cases h3 : x.n = y.n <;> (have h4 : ((x.n : Int) = y.n) ↔ (x.n = y.n) := by omega) <;> simp [h3, h4]

theorem ky_check (w : World) (x : Ky) (em : Bool) : (Instr.checkKey em 10000 ( /- t -/ 182) x.val).run Tryd.prog w = .ok () w := by
  unfold Ky.val
  kernel_rfl

theorem ky_ask (w : World) (x : Ky) (hx : x.Good w) : ∀ (es : List MapEntry) (S : List Ky) (i : Nat), es.map (·.key) = S.map Ky.val → (∀ y ∈ S, y.Good w) → (∀ e ∈ es, e.val = .bool true) →
    ∃ r, (Instr.findAsking ( /- t -/ 182) x.val es i).run Tryd.prog w = .ok r w ∧ ((r = none ∧ S.any (fun y => x.same y) = false) ∨ (∃ j, r = some (j, .bool true) ∧ S.any (fun y => x.same y) = true)) := by
  intro es
  induction es with
  | nil =>
    intro S i he _ _
    cases S with
    | nil => exact ⟨none, by simp [Instr.findAsking], Or.inl ⟨rfl, rfl⟩⟩
    | cons => simp at he
  | cons e es ih =>
    intro S i he hS hv
    cases S with
    | nil => simp at he
    | cons y S =>
      simp only [List.map_cons, List.cons.injEq] at he
      obtain ⟨he1, he2⟩ := he
      obtain ⟨r, hr, hc⟩ := ih S (i + 1) he2 (fun z hz => hS z (by simp [hz])) (fun z hz => hv z (by simp [hz]))
      have hq := ky_equal w x y hx (hS y (by simp))
      rw [← he1] at hq
      cases hb : x.same y with
      | true => exact ⟨some (i, .bool true), by simp [Instr.findAsking, hq, hb, Result.andThen, hv e (by simp)], Or.inr ⟨i, rfl, by simp [hb]⟩⟩
      | false => exact ⟨r, by simp [Instr.findAsking, hq, hb, Result.andThen, hr], by simpa [hb] using hc⟩

theorem ky_find (w : World) (x : Ky) (hx : x.Good w) (es : List MapEntry) (S : List Ky) (he : es.map (·.key) = S.map Ky.val) (hS : ∀ y ∈ S, y.Good w) (hv : ∀ e ∈ es, e.val = .bool true) :
    ∃ r, (Instr.findKey ( /- t -/ 182) x.val es).run Tryd.prog w = .ok r w ∧ ((r = none ∧ S.any (fun y => x.same y) = false) ∨ (∃ j, r = some (j, .bool true) ∧ S.any (fun y => x.same y) = true)) := by
  obtain ⟨r, hr, hc⟩ := ky_ask w x hx es S 0 he hS hv
  cases es with
  | nil =>
    cases S with
    | nil => exact ⟨none, by simp [Instr.findKey, run_underlying keyU, Instr.findNow], Or.inl ⟨rfl, rfl⟩⟩
    | cons => simp at he
  | cons e es =>
    refine ⟨r, ?_, hc⟩
    cases S with
    | nil => simp at he
    | cons y S =>
      simp only [List.map_cons, List.cons.injEq] at he
      have h0 : Instr.findNow (.struct (Tryd.prog.fieldsOf ( /- t -/ 182))) x.val (e :: es) 0 = none := by
        simp only [Instr.findNow, Instr.sameNow]
      simp [Instr.findKey, run_underlying keyU, h0, hr]

/-- Block m is a map from pairs to true whose keys are these. -/
def MapIs (w : World) (m : Nat) (S : List Ky) : Prop := ∃ es clock, w.heap[m]? = some (.map es clock) ∧ es.toList.map (·.key) = S.map Ky.val ∧ ∀ e ∈ es.toList, e.val = .bool true
theorem MapIs.same {w w' : World} {m : Nat} {S : List Ky} (h : MapIs w m S) (e : w'.heap[m]? = w.heap[m]?) : MapIs w' m S := by
  obtain ⟨es, clock, h1, h2⟩ := h
  exact ⟨es, clock, e.trans h1, h2⟩
theorem MapIs.lt {w : World} {m : Nat} {S : List Ky} (h : MapIs w m S) : m < w.heap.size := by
  obtain ⟨es, clock, h1, h2⟩ := h
  exact (Array.getElem?_eq_some_iff.1 h1).1
theorem MapIs.made (w : World) : MapIs (w.alloc (.map #[] 0)) w.heap.size [] := ⟨#[], 0, (MapKept.heap_alloc w _).1, rfl, by simp⟩

theorem seen_look {w : World} {m : Nat} {S : List Ky} (h : MapIs w m S) (x : Ky) (hx : x.Good w) (hS : ∀ y ∈ S, y.Good w) :
    (Instr.lookup ( /- t -/ 177) (.map (some m)) x.val false).run Tryd.prog w = .ok (.bool (S.any (fun y => x.same y))) w := by
  obtain ⟨es, clock, h1, h2, h3⟩ := h
  obtain ⟨r, hr, hc⟩ := ky_find w x hx es.toList S h2 hS h3
  have hz : (zeroValue ( /- t -/ 4)).run Tryd.prog w = .ok (.bool false) w := by kernel_rfl
  rcases hc with ⟨rfl, hs⟩ | ⟨j, rfl, hs⟩
  · simp [Instr.lookup, run_underlying Tryd.underlying177, MapKept.run_getObj_map h1, ky_check, hr, hz, hs, Result.andThen]
  · simp [Instr.lookup, run_underlying Tryd.underlying177, MapKept.run_getObj_map h1, ky_check, hr, hs, Result.andThen]

theorem seen_store {w : World} {m : Nat} {S : List Ky} (h : MapIs w m S) (x : Ky) (hx : x.Good w) (hS : ∀ y ∈ S, y.Good w) (hn : S.any (fun y => x.same y) = false) :
    ∃ w', (Instr.mapUpdate ( /- t -/ 177) (.map (some m)) x.val (.bool true)).run Tryd.prog w = .ok () w' ∧ MapIs w' m (S ++ [x]) ∧ w.grownBy w' (some m) := by
  obtain ⟨es, clock, h1, h2, h3⟩ := h
  obtain ⟨r, hr, hc⟩ := ky_find w x hx es.toList S h2 hS h3
  rcases hc with ⟨rfl, _⟩ | ⟨j, rfl, hs⟩
  · refine ⟨ChangeMaps.setBlock w m (.map (es.push ⟨x.val, .bool true, clock⟩) (clock + 1)), ?_, ?_, ?_⟩
    · simp [Instr.mapUpdate, run_underlying Tryd.underlying177, MapKept.run_getObj_map h1, ky_check, hr, MapKept.run_setObj_map _ h1, Result.andThen, ChangeMaps.setBlock]
    · exact ⟨_, _, ChangeMaps.heap_setBlock_same h1 _, by simp [h2], fun e he => by
        simp only [Array.toList_push, List.mem_append, List.mem_singleton] at he
        rcases he with he | rfl
        · exact h3 e he
        · rfl⟩
    · exact ⟨rfl, rfl, rfl, by simp [ChangeMaps.setBlock], fun k _ hk => ChangeMaps.heap_setBlock_other h1 _ (fun e => hk (by rw [e]))⟩
  · rw [hn] at hs
    cases hs

theorem wpList_seen_look (w : World) {ops : Array Oper} {rest : List Oper} {o : Oper} {a : Act} {Q : Exit → Act → World → Prop}
    (hg : o.guard = none) (mo xo : Operand) (hop : o.op = Op.lookup ( /- t -/ 177) mo xo false) (m : Nat) (S : List Ky) (h : MapIs w m S) (x : Ky) (hx : x.Good w) (hS : ∀ y ∈ S, y.Good w)
    (hm : a.eval mo = .map (some m)) (hk : a.eval xo = x.val) (hK : wpList Tryd.prog ops Q rest (a.put o.dst (.bool (S.any (fun y => x.same y)))) w) : wpList Tryd.prog ops Q (o :: rest) a w := by
  refine wpList_plain hg fun K' hK' => ?_
  have hrun := seen_look h x hx hS
  unfold Oper.wp
  simp [execOp, hop, hm, hk, hrun, Result.andThen]
  exact hK' _ _ hK

theorem wpList_seen_store (w : World) {ops : Array Oper} {rest : List Oper} {o : Oper} {a : Act} {Q : Exit → Act → World → Prop}
    (hg : o.guard = none) (mo xo vo : Operand) (hop : o.op = Op.mapUpdate ( /- t -/ 177) mo xo vo) (m : Nat) (S : List Ky) (h : MapIs w m S) (x : Ky) (hx : x.Good w) (hS : ∀ y ∈ S, y.Good w) (hn : S.any (fun y => x.same y) = false)
    (hm : a.eval mo = .map (some m)) (hk : a.eval xo = x.val) (hv : a.eval vo = .bool true) (hK : ∀ w', MapIs w' m (S ++ [x]) → w.grownBy w' (some m) → wpList Tryd.prog ops Q rest (a.put o.dst undef) w') : wpList Tryd.prog ops Q (o :: rest) a w := by
  refine wpList_plain hg fun K' hK' => ?_
  obtain ⟨w', hrun, r1, r2⟩ := seen_store h x hx hS hn
  unfold Oper.wp
  simp [execOp, hop, hm, hk, hv, hrun, Result.andThen]
  exact hK' _ _ (hK w' r1 r2)

end Go.Proofs.YtgcefippeokmcaaDoor

/- The comparison of two trees by a list of pairs: what a pair is, what holds of the list and of the pairs that were seen. -/
namespace Go.Proofs.YtgcefippeokmcaaDoor
open Go.RowKit

def likeB (k : Int) (fr tq : ByteArray) (ix : Int) (k' : Int) (fr' tq' : ByteArray) (ix' : Int) : Bool :=
  (k == k') && ((fr.toList == fr'.toList) && ((tq.toList == tq'.toList) && (ix == ix')))
theorem headB_like (k : Int) (fr tq : ByteArray) (ix : Int) (l : Nat) (k' : Int) (fr' tq' : ByteArray) (ix' : Int) (l' : Nat) :
    headB k fr tq ix l k' fr' tq' ix' l' = (likeB k fr tq ix k' fr' tq' ix' && (l == l')) := by
  unfold headB likeB
  simp only [Bool.and_assoc]

/-- A pair of nodes. -/
structure Pr where
  k : Int
  fr : ByteArray
  tq : ByteArray
  ix : Int
  s : Value
  f : F
  k' : Int
  fr' : ByteArray
  tq' : ByteArray
  ix' : Int
  s' : Value
  f' : F
def Pr.b (p : Pr) : Bool := sameN p.k p.fr p.tq p.ix p.f p.k' p.fr' p.tq' p.ix' p.f'
def Pr.cells (p : Pr) : List Value := [.int .i64 p.k, .string p.fr, .string p.tq, .int .i64 p.ix, p.s, .int .i64 p.k', .string p.fr', .string p.tq', .int .i64 p.ix', p.s']
def Pr.Ok (w : World) (p : Pr) : Prop := (∃ bs, Ow w p.s p.f bs) ∧ ∃ bs, Ow w p.s' p.f' bs
theorem cells_len (L : List Pr) : (L.flatMap Pr.cells).length = L.length * 10 := by
  induction L with
  | nil => rfl
  | cons p L ih => simp only [List.flatMap_cons, List.length_append, ih, List.length_cons, Pr.cells, List.length_nil]; omega
theorem cells_last (L : List Pr) (p : Pr) (j : Nat) : ((L ++ [p]).flatMap Pr.cells)[L.length * 10 + j]? = p.cells[j]? := by
  rw [List.flatMap_append, List.getElem?_append_right (by rw [cells_len]; omega), cells_len, Nat.add_sub_cancel_left]
  simp
theorem cells_take (L : List Pr) (p : Pr) : ((L ++ [p]).flatMap Pr.cells).take (L.length * 10) = L.flatMap Pr.cells := by
  rw [List.flatMap_append, List.take_append_of_le_length (by rw [cells_len]; omega), List.take_of_length_le (by rw [cells_len]; omega)]

/-- A pair of rows that was seen. -/
structure En where
  p : Nat
  q : Nat
  f : F
  g : F
def En.ky (e : En) : Ky := ⟨e.p, e.q, e.f.len⟩
def En.Ok (w : World) (e : En) : Prop := (∃ n bs, Free w e.p n ∧ OwRow w e.p 0 e.f bs) ∧ (∃ n bs, Free w e.q n ∧ OwRow w e.q 0 e.g bs) ∧ e.f.len = e.g.len

theorem row_one {w : World} : ∀ (f f' : F) (b o : Nat), Row w b o f → Row w b o f' → f.len = f'.len → f = f' := by
  intro f
  induction f with
  | nil => intro f' b o _ _ h; cases f' with
    | nil => rfl
    | cons => simp [F.len] at h
  | cons lab k fr tq ix kids rest ihk ihr =>
    intro f' b o h1 h2 hl
    cases f' with
    | nil => simp [F.len] at hl
    | cons lab' k' fr' tq' ix' kids' rest' =>
      obtain ⟨_, _, _, _, _, c0, c1, c2, c3, c4, ⟨a, cap, c5, _, _, hk⟩, hr⟩ := h1
      obtain ⟨_, _, _, _, _, d0, d1, d2, d3, d4, ⟨a', cap', d5, _, _, hk'⟩, hr'⟩ := h2
      rw [c0] at d0; rw [c1] at d1; rw [c2] at d2; rw [c3] at d3; rw [c4] at d4; rw [c5] at d5
      simp only [Option.some.injEq, Value.string.injEq, Value.int.injEq, Value.slice.injEq, true_and] at d0 d1 d2 d3 d4 d5
      obtain ⟨rfl, hkl, rfl⟩ := d5
      subst d0 d1 d2 d3 d4
      have e1 : rest = rest' := ihr rest' b (o + 6) hr hr' (by simpa [F.len] using hl)
      have e2 : kids = kids' := by
        rcases hk with rfl | ⟨b', o', rfl, hk⟩
        · cases kids' with
          | nil => rfl
          | cons => simp [F.len] at hkl
        · rcases hk' with rfl | ⟨b2, o2, e, hk'⟩
          · cases kids with
            | nil => rfl
            | cons => simp [F.len] at hkl
          · simp only [Option.some.injEq, Addr.mk.injEq, and_true] at e
            obtain ⟨rfl, rfl⟩ := e
            exact ihk kids' _ _ hk hk' hkl
      rw [e1, e2]

theorem En.one {w : World} {x y : En} (hx : x.Ok w) (hy : y.Ok w) (h : x.ky.same y.ky = true) : x.f = y.f ∧ x.g = y.g := by
  simp only [Ky.same, En.ky, Bool.and_eq_true, beq_iff_eq] at h
  obtain ⟨h1, h2, h3⟩ := h
  obtain ⟨⟨_, _, _, a1⟩, ⟨_, _, _, a2⟩, a3⟩ := hx
  obtain ⟨⟨_, _, _, b1⟩, ⟨_, _, _, b2⟩, b3⟩ := hy
  rw [← h1] at b1
  rw [← h2] at b2
  exact ⟨row_one _ _ _ _ (a1.row) (b1.row) h3, row_one _ _ _ _ (a2.row) (b2.row) (by omega)⟩

/-- What holds between rounds: root is true just if all pairs that are to be compared are; a pair that was seen is equal if all smaller ones that are to be compared are. -/
structure Inv (root : Bool) (L : List Pr) (S : List En) : Prop where
  need : root = true → ∀ p, p ∈ L → p.b = true
  suff : (∀ p, p ∈ L → p.b = true) → root = true
  seen : ∀ e, e ∈ S → (∀ p, p ∈ L → p.f.sz < e.f.sz → p.b = true) → sameF e.f e.g = true

theorem Inv.start (x : Pr) : Inv x.b [x] [] := ⟨fun h p hp => by simp at hp; rw [hp]; exact h, fun h => h x (by simp), fun e he => by simp at he⟩
theorem Inv.done {root : Bool} {S : List En} (h : Inv root [] S) : root = true := h.suff (fun p hp => by simp at hp)
theorem Inv.no {root : Bool} {L : List Pr} {S : List En} {x : Pr} (h : Inv root (L ++ [x]) S) (hx : x.b = false) : root = false := by
  cases hr : root with
  | false => rfl
  | true => rw [h.need hr x (by simp)] at hx; cases hx
theorem Inv.leaf {root : Bool} {L : List Pr} {S : List En} {x : Pr} (h : Inv root (L ++ [x]) S) (hx : x.b = true) : Inv root L S where
  need hr p hp := h.need hr p (by simp [hp])
  suff hL := h.suff (fun p hp => by
    rcases List.mem_append.1 hp with hp | hp
    · exact hL p hp
    · simp at hp; rw [hp]; exact hx)
  seen e he hL := h.seen e he (fun p hp hs => by
    rcases List.mem_append.1 hp with hp | hp
    · exact hL p hp hs
    · simp at hp; rw [hp]; exact hx)
theorem Inv.known {root : Bool} {L : List Pr} {S : List En} {x : Pr} (h : Inv root (L ++ [x]) S) (hh : headB x.k x.fr x.tq x.ix x.f.len x.k' x.fr' x.tq' x.ix' x.f'.len = true) {e : En} (he : e ∈ S) (h1 : e.f = x.f) (h2 : e.g = x.f') : Inv root L S := by
  have key : (∀ p, p ∈ L → p.f.sz < x.f.sz → p.b = true) → x.b = true := fun hL => by
    have := h.seen e he (fun p hp hs => by
      rw [h1] at hs
      rcases List.mem_append.1 hp with hp | hp
      · exact hL p hp hs
      · simp at hp; rw [hp] at hs; omega)
    rw [h1, h2] at this
    simp [Pr.b, sameN, hh, this]
  refine ⟨fun hr p hp => h.need hr p (by simp [hp]), fun hL => h.suff (fun p hp => ?_), fun e' he' hL => h.seen e' he' (fun p hp hs => ?_)⟩
  · rcases List.mem_append.1 hp with hp | hp
    · exact hL p hp
    · simp at hp; rw [hp]; exact key (fun p hp _ => hL p hp)
  · rcases List.mem_append.1 hp with hp | hp
    · exact hL p hp hs
    · simp at hp; rw [hp] at hs ⊢; exact key (fun p hp hs' => hL p hp (by omega))
theorem Inv.push {root : Bool} {L P : List Pr} {S : List En} {x : Pr} (h : Inv root (L ++ [x]) S) (hh : headB x.k x.fr x.tq x.ix x.f.len x.k' x.fr' x.tq' x.ix' x.f'.len = true) {e : En} (h1 : e.f = x.f) (h2 : e.g = x.f')
    (hP : sameF x.f x.f' = P.all Pr.b) (hs : ∀ p, p ∈ P → p.f.sz < x.f.sz) : Inv root (L ++ P) (S ++ [e]) := by
  have hx : x.b = P.all Pr.b := by simp [Pr.b, sameN, hh, ← hP]
  have key : (∀ p, p ∈ P → p.b = true) → x.b = true := fun hL => by rw [hx]; exact List.all_eq_true.2 hL
  refine ⟨fun hr p hp => ?_, fun hL => h.suff (fun p hp => ?_), fun e' he' hL => ?_⟩
  · rcases List.mem_append.1 hp with hp | hp
    · exact h.need hr p (by simp [hp])
    · have := h.need hr x (by simp)
      rw [hx] at this
      exact List.all_eq_true.1 this p hp
  · rcases List.mem_append.1 hp with hp | hp
    · exact hL p (by simp [hp])
    · simp at hp; rw [hp]; exact key (fun p hp => hL p (by simp [hp]))
  · rcases List.mem_append.1 he' with he' | he'
    · refine h.seen e' he' (fun p hp hsz => ?_)
      rcases List.mem_append.1 hp with hp | hp
      · exact hL p (by simp [hp]) hsz
      · simp at hp
        rw [hp] at hsz ⊢
        exact key (fun p hp => hL p (by simp [hp]) (by have := hs p hp; omega))
    · simp at he'
      subst he'
      rw [h1, h2, hP]
      exact List.all_eq_true.2 (fun p hp => hL p (by simp [hp]) (by rw [h1]; exact hs p hp))

/-- How many nodes are to be compared at most. -/
def wsum : List Pr → Nat
  | [] => 0
  | p :: L => p.f.sz + 1 + wsum L
theorem wsum_app (L M : List Pr) : wsum (L ++ M) = wsum L + wsum M := by
  induction L with
  | nil => simp [wsum]
  | cons p L ih => simp only [List.cons_append, wsum, ih]; omega
theorem len_wsum (L : List Pr) : L.length ≤ wsum L := by
  induction L with
  | nil => simp
  | cons p L ih => simp only [List.length_cons, wsum]; omega

end Go.Proofs.YtgcefippeokmcaaDoor

/- The small functions that the comparison of two global types calls. -/
namespace Go.Proofs.YtgcefippeokmcaaDoor
open Go.RowKit

theorem likeB_split (k : Int) (fr tq : ByteArray) (ix : Int) (k' : Int) (fr' tq' : ByteArray) (ix' : Int) :
    likeB k fr tq ix k' fr' tq' ix' = ((k == k') && ((fr.toList == fr'.toList) && ((tq.toList == tq'.toList) && (ix == ix')))) := rfl

set_option maxHeartbeats 800000 in
theorem like_calls (w : World) (k ix k' ix' : Int) (fr tq fr' tq' : ByteArray) (a a' : Option Addr) (n c n' c' : Nat) :
    Calls Tryd.prog 86 #[.agg #[.int .i64 k, .string fr, .string tq, .int .i64 ix, .slice a n c], .agg #[.int .i64 k', .string fr', .string tq', .int .i64 ix', .slice a' n' c']] w
      fun e w' => e = .returned (.bool (likeB k fr tq ix k' fr' tq' ix')) ∧ Below w.heap.size w w' := by
  have hb0 := (alloc_below w (.cells #[.int .i64 k, .string fr, .string tq, .int .i64 ix, .slice a n c] ( /- t -/ 39))).alloc (by simp) (.cells #[.int .i64 k', .string fr', .string tq', .int .i64 ix', .slice a' n' c'] ( /- t -/ 39))
  go_enter Tryd.func86, Tryd.ntmps86
  go_wp2_with fail
  all_goals try subst_vars
  all_goals go_ret
  all_goals refine ⟨ret_bool ?_, hb0⟩
  all_goals simp_all [likeB_split]

set_option maxHeartbeats 800000 in
theorem kids_calls (w : World) (k ix : Int) (fr tq : ByteArray) (a : Option Addr) (n c : Nat) :
    Calls Tryd.prog 87 #[.agg #[.int .i64 k, .string fr, .string tq, .int .i64 ix, .slice a n c]] w
      fun e w' => e = .returned (.slice a n c) ∧ Below w.heap.size w w' := by
  have hb0 := alloc_below w (.cells #[.int .i64 k, .string fr, .string tq, .int .i64 ix, .slice a n c] ( /- t -/ 39))
  go_enter Tryd.func87, Tryd.ntmps87
  go_wp2_with fail
  go_ret
  exact ⟨rfl, hb0⟩

set_option maxHeartbeats 800000 in
set_option maxRecDepth 100000 in
theorem parts_calls (w : World) (lab : ByteArray) (k ix : Int) (fr tq : ByteArray) (a : Option Addr) (n c : Nat) :
    Calls Tryd.prog 88 #[.agg #[.string lab, .int .i64 k, .string fr, .string tq, .int .i64 ix, .slice a n c]] w
      fun e w' => e = .returned (.tuple #[.string lab, .agg #[.int .i64 k, .string fr, .string tq, .int .i64 ix, .slice a n c]]) ∧ Below w.heap.size w w' := by
  go_enter Tryd.func88, Tryd.ntmps88
  go_wp2_with fail
  go_region
  go_wp2_with fail
  go_returns
  exact ⟨rfl, ((alloc_below w _).alloc (by simp) _).drew⟩

end Go.Proofs.YtgcefippeokmcaaDoor

/- What holds between two rounds of the comparison of two global types. -/
namespace Go.Proofs.YtgcefippeokmcaaDoor
open Go.RowKit

/-- What holds between two rounds of the comparison. -/
def RelS (W0 : World) (root : Bool) (m n : Nat) (v : Value) (wr : World) : Prop :=
  ∃ (L : List Pr) (S : List En), wsum L ≤ n ∧ n ≤ 1048577 ∧ wr.ownsRow W0.heap.size ( /- t -/ 178) 10 v L.length (L.flatMap Pr.cells) ∧ MapIs wr m (S.map En.ky) ∧ Inv root L S ∧
    (∀ p, p ∈ L → p.Ok W0) ∧ (∀ e, e ∈ S → e.Ok W0) ∧ W0.heap.size ≤ m ∧ Below W0.heap.size W0 wr

theorem rel_start (w : World) (x : Pr) (o1 o2 : Obj) (hok : x.Ok w) (hsz : x.f.sz ≤ 1048576) :
    RelS w x.b (w.heap.size + 1 + 1) (x.f.sz + 1) (.slice (some ⟨w.heap.size + 1 + 1 + 1, 0, none⟩) 1 1) ((((w.alloc o1).alloc o2).alloc (.map #[] 0)).alloc (.cells x.cells.toArray ( /- t -/ 178))) := by
  have hs2 : ((w.alloc o1).alloc o2).heap.size = w.heap.size + 1 + 1 := by simp
  have hs3 : (((w.alloc o1).alloc o2).alloc (.map #[] 0)).heap.size = w.heap.size + 1 + 1 + 1 := by simp
  refine ⟨[x], [], ?_, by omega, ?_, ?_, Inv.start x, fun p hp => by simp at hp; rw [hp]; exact hok, fun e he => by simp at he, by omega, ?_⟩
  · simp [wsum]
  · have h := World.ownsRow_lit (base := w.heap.size) (e := ( /- t -/ 178)) (size := 10) (((w.alloc o1).alloc o2).alloc (.map #[] 0)) x.cells.toArray 1 (by rw [hs3]; omega) (by unfold maxLen; omega) rfl
    rw [hs3] at h
    simpa using h
  · have h := MapIs.made ((w.alloc o1).alloc o2)
    rw [hs2] at h
    exact h.same ((alloc_below (((w.alloc o1).alloc o2).alloc (.map #[] 0)) _).block _ (by rw [hs3]; omega))
  · exact (((((Below.refl _ _).alloc (Nat.le_refl _) _).alloc (by simp) _).alloc (by simp; omega) _).alloc (by simp; omega) _)

theorem row_shape {w : World} {base : Nat} {e : TypeId} {size : Nat} {v : Value} {n : Nat} {xs : List Value} (h : w.ownsRow base e size v n xs) : ∃ a cap, v = .slice a n cap := by
  rcases h.2 with ⟨rfl, rfl⟩ | ⟨g, cap, cur, rfl, _⟩
  · exact ⟨_, _, rfl⟩
  · exact ⟨_, _, rfl⟩
theorem row_cut {w : World} {base : Nat} {e : TypeId} {size : Nat} {g n m cap : Nat} {xs : List Value} (h : w.ownsRow base e size (.slice (some ⟨g, 0, none⟩) n cap) n xs) (hm : m ≤ n) :
    w.ownsRow base e size (.slice (some ⟨g, 0, none⟩) m cap) m (xs.take (m * size)) := by
  have hle : m * size ≤ n * size := Nat.mul_le_mul_right _ hm
  rcases h with ⟨hl, ⟨hv, _⟩ | ⟨g', cap', cur, hv, hb, hh, hc, hc', hs, ht⟩⟩
  · cases hv
  · simp only [Value.slice.injEq, Option.some.injEq, Addr.mk.injEq, and_true] at hv
    obtain ⟨rfl, -, rfl⟩ := hv
    refine ⟨by rw [List.length_take, hl, Nat.min_eq_left hle], Or.inr ⟨g, cap, cur, rfl, hb, hh, Nat.le_trans hm hc, hc', hs, ?_⟩⟩
    rw [← ht, List.take_take, Nat.min_eq_left hle]

theorem row_cap {w : World} {base : Nat} {e : TypeId} {size : Nat} {a : Option Addr} {n cap : Nat} {xs : List Value} (h : w.ownsRow base e size (.slice a n cap) n xs) : n ≤ cap ∧ cap ≤ maxLen := by
  rcases h.2 with ⟨e, rfl⟩ | ⟨g, cap', cur, e, _, _, h1, h2, _⟩
  · simp only [Value.slice.injEq] at e
    obtain ⟨_, _, rfl⟩ := e
    exact ⟨Nat.le_refl _, Nat.zero_le _⟩
  · simp only [Value.slice.injEq] at e
    obtain ⟨_, _, rfl⟩ := e
    exact ⟨h1, h2⟩

theorem two_new (w : World) (v0 v1 v2 v3 v4 u0 u1 u2 u3 u4 : Value) (t : TypeId) :
    Box5 (((w.alloc (.cells #[v0, v1, v2, v3, v4] t)).alloc (.cells #[u0, u1, u2, u3, u4] t)).drew) w.heap.size v0 v1 v2 v3 v4 ∧
    Box5 (((w.alloc (.cells #[v0, v1, v2, v3, v4] t)).alloc (.cells #[u0, u1, u2, u3, u4] t)).drew) (w.heap.size + 1) u0 u1 u2 u3 u4 ∧
    Below w.heap.size w (((w.alloc (.cells #[v0, v1, v2, v3, v4] t)).alloc (.cells #[u0, u1, u2, u3, u4] t)).drew) ∧ w.heap.size ≠ w.heap.size + 1 := by
  have h1 := Box5.now w v0 v1 v2 v3 v4 t
  have h2 := Box5.now (w.alloc (.cells #[v0, v1, v2, v3, v4] t)) u0 u1 u2 u3 u4 t
  rw [show (w.alloc (.cells #[v0, v1, v2, v3, v4] t)).heap.size = w.heap.size + 1 from by simp] at h2
  exact ⟨(h1.below (alloc_below _ _)).drew, h2.drew, ((alloc_below w _).alloc (by simp) _).drew, by omega⟩

theorem row_below {w w' : World} {base : Nat} {e : TypeId} {size : Nat} {v : Value} {n : Nat} {xs : List Value} (h : w.ownsRow base e size v n xs) (hb : Below w.heap.size w w') : w'.ownsRow base e size v n xs := by
  rcases h with ⟨hl, h | ⟨g, cap, cur, hv, hg, hh, hr⟩⟩
  · exact ⟨hl, Or.inl h⟩
  · exact ⟨hl, Or.inr ⟨g, cap, cur, hv, hg, (hb.block g (Array.getElem?_eq_some_iff.1 hh).1).trans hh, hr⟩⟩

theorem rel_next {w wr w8 : World} {root : Bool} {M n0 : Nat} {v : Value} {L0 : List Pr} {S : List En} (hcut : wr.ownsRow w.heap.size ( /- t -/ 178) 10 v n0 (L0.flatMap Pr.cells)) (hn0 : n0 = L0.length) (hmap : MapIs wr M (S.map En.ky))
    (hb : Below wr.heap.size wr w8) (hinv : Inv root L0 S) (hL : ∀ p, p ∈ L0 → p.Ok w) (hS : ∀ e, e ∈ S → e.Ok w) (hM : w.heap.size ≤ M) (hbw : Below w.heap.size w wr) (hn : wsum L0 ≤ 1048577) : RelS w root M (wsum L0) v w8 := by
  subst hn0
  exact ⟨L0, S, Nat.le_refl _, hn, row_below hcut hb, hmap.same (hb.block _ hmap.lt), hinv, hL, hS, hM, hbw.trans (hb.mono hbw.size)⟩

theorem Ow.head {w : World} {a : Option Addr} {n c : Nat} {f : F} {bs : List Nat} (h : Ow w (.slice a n c) f bs) (h0 : f.len ≠ 0) : ∃ b k cs, a = some ⟨b, 0, none⟩ ∧ Free w b k ∧ OwRow w b 0 f cs := by
  obtain ⟨a', cap, e, _, _, h⟩ := h
  simp only [Value.slice.injEq] at e
  obtain ⟨rfl, _, _⟩ := e
  rcases h with ⟨rfl, _⟩ | ⟨b, k, bs', e2, _, hf, _, hr⟩
  · exact absurd rfl h0
  · exact ⟨b, k, bs', e2, hf, hr⟩
theorem Free.good {w : World} {b n : Nat} (h : Free w b n) : Good w b := by
  obtain ⟨cs, t, h, _⟩ := h
  exact ⟨cs, t, h⟩
theorem En.Ok.good {w w' : World} {e : En} (h : e.Ok w) (hb : Below w.heap.size w w') : e.ky.Good w' := by
  obtain ⟨⟨_, _, h1, _⟩, ⟨_, _, h2, _⟩, _⟩ := h
  exact ⟨h1.good.below hb, h2.good.below hb⟩
theorem len_zero {f : F} (h : f.len = 0) : f = .nil := by
  cases f with
  | nil => rfl
  | cons => simp [F.len] at h

theorem below_grown {B M : Nat} {a b c : World} (hB : B ≤ a.heap.size) (h : Below B a b) (hg : b.grownBy c (some M)) (hM : B ≤ M) : Below B a c :=
  ⟨hg.os.trans h.os, hg.tape.trans h.tape, hg.output.trans h.output, Nat.le_trans h.size hg.size, fun k hk => (hg.block k (Nat.lt_of_lt_of_le (Nat.lt_of_lt_of_le hk hB) h.size) (fun e => by cases e; omega)).trans (h.block k hk)⟩
theorem row_grown {b c : World} {base : Nat} {e : TypeId} {size : Nat} {v : Value} {n M : Nat} {xs : List Value} {S : List Ky} (h : b.ownsRow base e size v n xs) (hm : MapIs b M S) (hg : b.grownBy c (some M)) : c.ownsRow base e size v n xs := by
  obtain ⟨es, ck, hm, _⟩ := hm
  rcases h with ⟨hl, h | ⟨g, cap, cur, hv, hb, hh, hr⟩⟩
  · exact ⟨hl, Or.inl h⟩
  · have hne : g ≠ M := fun e => by rw [e, hm] at hh; cases hh
    exact ⟨hl, Or.inr ⟨g, cap, cur, hv, hb, (hg.block g (Array.getElem?_eq_some_iff.1 hh).1 (fun e => hne (by cases e; rfl))).trans hh, hr⟩⟩
theorem map_grown {b c : World} {base : Nat} {e : TypeId} {size : Nat} {v : Value} {n M : Nat} {xs : List Value} {S : List Ky} (h : b.ownsRow base e size v n xs) (hm : MapIs b M S) (hg : b.grownBy c v.ownBlock) : MapIs c M S := by
  refine hm.same (hg.block M hm.lt (fun e => ?_))
  obtain ⟨es, ck, hm, _⟩ := hm
  rcases h.2 with ⟨rfl, _⟩ | ⟨g, cap, cur, rfl, _, hh, _⟩
  · cases e
  · simp only [Value.ownBlock, Option.some.injEq] at e
    subst e
    rw [hm] at hh
    cases hh
theorem below_row {B : Nat} {a b c : World} {e : TypeId} {size : Nat} {v : Value} {n : Nat} {xs : List Value} (hB : B ≤ a.heap.size) (h : Below B a b) (hr : b.ownsRow B e size v n xs) (hg : b.grownBy c v.ownBlock) : Below B a c :=
  ⟨hg.os.trans h.os, hg.tape.trans h.tape, hg.output.trans h.output, Nat.le_trans h.size hg.size, fun k hk => (hg.block k (Nat.lt_of_lt_of_le (Nat.lt_of_lt_of_le hk hB) h.size) (fun e => by have := (hr.lt k e.symm).1; omega)).trans (h.block k hk)⟩
theorem mem_wsum {p : Pr} : ∀ {L : List Pr}, p ∈ L → p.f.sz + 1 ≤ wsum L
  | q :: L, h => by
    rcases List.mem_cons.1 h with rfl | h
    · simp only [wsum]; omega
    · have := mem_wsum h
      simp only [wsum]; omega

/-- What holds between two rounds over the branches of a pair. -/
def RelI (w0 : World) (M b1 b2 : Nat) (f1 f2 : F) (L0 : List Pr) (S : List En) (v iv : Value) (wr : World) : Prop :=
  ∃ (h h' : F) (j : Nat) (P : List Pr), j + h.len = f1.len ∧ iv = .int .i64 j ∧ h.len = h'.len ∧ h.sz + wsum P = f1.sz ∧ (∃ cs, OwRow w0 b1 (j * 6) h cs) ∧ (∃ cs, OwRow w0 b2 (j * 6) h' cs) ∧
    sameF f1 f2 = (P.all Pr.b && sameF h h') ∧ (∀ p, p ∈ P → p.Ok w0) ∧ wr.ownsRow w0.heap.size ( /- t -/ 178) 10 v (L0 ++ P).length ((L0 ++ P).flatMap Pr.cells) ∧ MapIs wr M (S.map En.ky) ∧ Below w0.heap.size w0 wr

theorem OwRow.head {w : World} {b o : Nat} {lab : ByteArray} {k : Int} {fr tq : ByteArray} {ix : Int} {kids rest : F} {bs : List Nat} (h : OwRow w b o (.cons lab k fr tq ix kids rest) bs) :
    ∃ v, w.cell? ⟨b, o, none⟩ = some (.string lab) ∧ w.cell? ⟨b, o + 1, none⟩ = some (.int .i64 k) ∧ w.cell? ⟨b, o + 2, none⟩ = some (.string fr) ∧ w.cell? ⟨b, o + 3, none⟩ = some (.string tq) ∧
      w.cell? ⟨b, o + 4, none⟩ = some (.int .i64 ix) ∧ w.cell? ⟨b, o + 5, none⟩ = some v ∧ (∃ ks, Ow w v kids ks) ∧ ∃ rs, OwRow w b (o + 6) rest rs := by
  obtain ⟨_, _, _, _, _, c0, c1, c2, c3, c4, ks, rs, _, ⟨a, cap, c5, h1, h2, h3⟩, hr⟩ := h
  exact ⟨_, c0, c1, c2, c3, c4, c5, ⟨ks, a, cap, rfl, h1, h2, h3⟩, rs, hr⟩

theorem pairInfo : (Tryd.prog.info? ( /- t -/ 178)).map (fun i => (i.zero.map (fun z => z.cells.size), i.size, i.bytes)) = some (some 10, 10, 144) := by kernel_rfl

theorem pair_info : ∃ i z, Tryd.prog.info? ( /- t -/ 178) = some i ∧ i.zero = some z ∧ i.size = 10 ∧ i.bytes = 144 ∧ z.cells.size = 10 := by
  have h := pairInfo
  cases hi : Tryd.prog.info? ( /- t -/ 178) with
  | none => rw [hi] at h; cases h
  | some i =>
    rw [hi] at h
    simp only [Option.map_some, Option.some.injEq, Prod.mk.injEq] at h
    obtain ⟨h1, h2, h3⟩ := h
    cases hz : i.zero with
    | none => rw [hz] at h1; cases h1
    | some z =>
      rw [hz] at h1
      exact ⟨i, z, rfl, hz, h2, h3, by simpa using h1⟩
theorem len_le : ∀ f : F, f.len ≤ f.sz
  | .nil => Nat.le_refl _
  | .cons _ _ _ _ _ _ rest => by have := len_le rest; simp only [F.len, F.sz]; omega

theorem rel_step {w0 wr w12 w13 : World} {M b1 b2 j gg cp : Nat} {f1 f2 kids rest kids' rest' : F} {L0 P : List Pr} {S : List En} {v s1 s2 : Value} {o1 o2 : Obj}
    {lab fr3 to3 lab' fr4 to4 : ByteArray} {kd ix3 kd' ix4 : Int} (hK : j + 1 + rest.len = f1.len ∧ rest.len = rest'.len) (hlab : (lab.toList == lab'.toList) = true)
    (hX : (F.cons lab kd fr3 to3 ix3 kids rest).sz + wsum P = f1.sz ∧ sameF f1 f2 = (P.all Pr.b && sameF (F.cons lab kd fr3 to3 ix3 kids rest) (F.cons lab' kd' fr4 to4 ix4 kids' rest')) ∧ (∀ p, p ∈ P → p.Ok w0) ∧
      wr.ownsRow w0.heap.size ( /- t -/ 178) 10 v (L0 ++ P).length ((L0 ++ P).flatMap Pr.cells) ∧ MapIs wr M (S.map En.ky) ∧ Below w0.heap.size w0 wr ∧ (∃ ks, Ow w0 s1 kids ks) ∧ (∃ ks, Ow w0 s2 kids' ks) ∧
      (∃ rs, OwRow w0 b1 (j * 6 + 6) rest rs) ∧ ∃ rs, OwRow w0 b2 (j * 6 + 6) rest' rs)
    (hb14 : Below wr.heap.size wr w12)
    (hown13 : w13.ownsRow w0.heap.size ( /- t -/ 178) 10 (.slice (some ⟨gg, 0, none⟩) ((L0 ++ P).length + 1) cp) ((L0 ++ P).length + 1) ((L0 ++ P).flatMap Pr.cells ++ Pr.cells ⟨kd, fr3, to3, ix3, s1, kids, kd', fr4, to4, ix4, s2, kids'⟩))
    (hgrow13 : ((w12.alloc o1).alloc o2).grownBy w13 v.ownBlock) (hbig : f1.sz ≤ 1048577) :
    RelI w0 M b1 b2 f1 f2 L0 S (.slice (some ⟨gg, 0, none⟩) (L0.length + P.length + 1) cp) (.int .i64 (wrap64 (j + 1))) w13 ∧ f1.len - (intOf (.int .i64 (wrap64 (j + 1)))).toNat < f1.len - (intOf (.int .i64 j)).toNat := by
  have hjb := len_le f1
  obtain ⟨hsz, hsame, hP, hown, hmap, hbw, hk1, hk2, ⟨rs1, hrr1⟩, rs2, hrr2⟩ := hX
  have hb15 := (hb14.alloc hb14.size o1).alloc (Nat.le_trans hb14.size (by simp)) o2
  have hown15 := row_below hown hb15
  have hmap15 : MapIs _ M _ := hmap.same (hb15.block _ hmap.lt)
  have hbw15 := hbw.trans (hb15.mono hbw.size)
  have hw : wrap64 ((j : Int) + 1) = ((j + 1 : Nat) : Int) := by
    unfold wrap64
    omega
  rw [hw]
  refine ⟨⟨rest, rest', j + 1, P ++ [⟨kd, fr3, to3, ix3, s1, kids, kd', fr4, to4, ix4, s2, kids'⟩], by omega, rfl, hK.2, ?_, ⟨rs1, by rw [Nat.add_mul]; exact hrr1⟩, ⟨rs2, by rw [Nat.add_mul]; exact hrr2⟩, ?_, fun p hp => ?_, ?_, map_grown hown15 hmap15 hgrow13, below_row (Nat.le_refl _) hbw15 hown15 hgrow13⟩, by simp [intOf]; omega⟩
  · rw [wsum_app]
    simp only [wsum, F.sz] at hsz ⊢
    omega
  · rw [hsame, List.all_append]
    simp only [sameF, hlab, List.all_cons, List.all_nil, Pr.b, sameN, Bool.true_and, Bool.and_true, Bool.and_assoc]
  · rcases List.mem_append.1 hp with hp | hp
    · exact hP p hp
    · simp at hp
      rw [hp]
      exact ⟨hk1, hk2⟩
  · have hlen : (L0 ++ (P ++ [(⟨kd, fr3, to3, ix3, s1, kids, kd', fr4, to4, ix4, s2, kids'⟩ : Pr)])).length = (L0 ++ P).length + 1 := by simp; omega
    rw [hlen, ← List.append_assoc, List.flatMap_append, List.length_append] at *
    simpa using hown13

end Go.Proofs.YtgcefippeokmcaaDoor

/- countGlobal of the program: recursions and messages; GlobalNodes and GlobalValid. -/
namespace Go.Proofs.YtgcefippeokmcaaDoor
open Go.RowKit

set_option maxHeartbeats 800000 in
set_option maxRecDepth 100000 in
theorem cg_rec (n : Nat) (ih : CgAt n) (w : World) (ix depth recs ung : Int) (fr tq : ByteArray) (sv : Value) (kids : F) (c m : Nat) (hn : kids.sz < n + 1) (hs : Sl w sv kids) (hc : Ctr w c m) (hm : m ≤ 399) (hd0 : 1 ≤ depth) (hd : depth ≤ 40)
    (hr : 0 ≤ recs) (hr2 : recs + 1 ≤ depth) (hu : 0 ≤ ung) (hu2 : ung + 1 ≤ depth) (hsh : shapeB 3 fr tq ix kids = true) :
    Calls Tryd.prog 95 #[.agg #[.int .i64 3, .string fr, .string tq, .int .i64 ix, sv], .agg #[.int .i64 depth, .int .i64 recs, .int .i64 ung], .pointer (some ⟨c, 0, none⟩)] w
    (CgPost c w m (kids.sz + 1) (vldN 3 fr tq ix kids recs ung (41 - depth))) := by
  obtain ⟨e1, e2, rfl, lab, k', fr', tq', ix', kids', rfl, e3⟩ := shape_rec hsh
  obtain ⟨a, cap, rfl, -, hat⟩ := hs.at
  obtain ⟨b', o', rfl, -⟩ := hat.head
  have h0 := hc.cell
  have h1 : w.frozen? ⟨c, 0, none⟩ = false := hc.frozen
  have h2 := hc.lt
  have HA := hide hat
  have HSH := hide hsh
  have HN := hide hn
  have E1 := hide e1
  have E2 := hide e2
  have E3 := hide e3
  clear hs hsh hat hn e1 e2 e3
  change Calls Tryd.prog 95 #[.agg #[.int .i64 3, .string fr, .string tq, .int .i64 0, .slice (some ⟨b', o', none⟩) 1 cap], .agg #[.int .i64 depth, .int .i64 recs, .int .i64 ung], .pointer (some ⟨c, 0, none⟩)] w _
  go_enter Tryd.func95, Tryd.ntmps95
  go_wp2_with fail
  have q0 := cg_start (v0 := .int .i64 3) (v1 := .string fr) (v2 := .string tq) (v3 := .int .i64 0) (v4 := .slice (some ⟨b', o', none⟩) 1 cap) (t := ( /- t -/ 39)) (x0 := .int .i64 depth) (x1 := .int .i64 recs) (x2 := .int .i64 ung) (y0 := .int .i64 (depth + 1)) (y1 := .int .i64 recs) (y2 := .int .i64 0) (u := ( /- t -/ 109)) hc (Below.refl _ _)
  have hat1 := HA.out.only hc q0.1
  obtain ⟨b2, o2, e, -, -, -, -, -, d0, d1, d2, d3, d4, ⟨sv', d5, hsv⟩, -⟩ := hat1.head
  simp only [Option.some.injEq, Addr.mk.injEq, and_true] at e
  obtain ⟨rfl, rfl⟩ := e
  simp only [Nat.zero_mul, Nat.add_zero] at d0 d1 d2 d3 d4 d5
  refine (node_rec _ 0 fr tq b' o' cap lab k' ix' fr' tq' sv' E1.out E2.out rfl E3.out d0 d1 d2 d3 d4 d5).mono ?_
  rintro e w1 ⟨rfl, hb⟩
  have HSV := hide (hsv.still (Still.of_below hb))
  obtain ⟨ka, kc, rfl, -, -⟩ := hsv.at
  have HD5 : Hid (w.cell? ⟨b', o' + 5, none⟩ = some (.slice ka kids'.len kc)) := by
    have hb3 : b' < w.heap.size := by
      obtain ⟨b3, o3, e4, -, -, -, -, -, g0, -⟩ := HA.out.head
      simp only [Option.some.injEq, Addr.mk.injEq, and_true] at e4
      obtain ⟨rfl, rfl⟩ := e4
      exact World.block_lt_of_cell? _ _ g0
    have hbc : b' ≠ c := by
      rintro rfl
      have g0 := d0
      rw [show (⟨b', o', none⟩ : Addr) = ⟨b', o', none⟩ from rfl] at g0
      obtain ⟨t', ht'⟩ := q0.2.1
      simp only [World.cell?, ht'] at g0
      cases o' with
      | zero => simp at g0
      | succ o => simp at g0
    unfold Hid
    rw [← Same.cell (q0.1.block b' hb3 hbc)]
    exact d5
  clear q0 hat1 d0 d1 d2 d3 d4 d5 hsv
  obtain ⟨p1, p2, hz, -, -, -, -, -, x0, x1, x2, y0, y1, y2, T, hT⟩ := cg_start hc (hb.mono (by simp))
  have hz1 : w.heap.size + 1 < w1.heap.size := by omega
  have hz2 : w.heap.size + 1 + 1 < w1.heap.size := by omega
  have f0 : ∀ o, w1.frozen? ⟨w.heap.size + 1 + 1, o, none⟩ = false := fun o => by simp [World.frozen?, hT]
  have HT := hide hT
  clear hb hT
  have n1 := taRecEnd; have n2 := taRecMsg; have n3 := taRecRec
  go_wp2_with fail
  go_region
  go_wp2_with fail
  have hcz : c ≠ w.heap.size + 1 + 1 := by omega
  have o2 := (((p1.setCell (p := ⟨w.heap.size + 1 + 1, 1, none⟩) (Or.inr (by simp; omega)) (.int .i64 (recs + 1))).setCell (p := ⟨w.heap.size + 1 + 1, 2, none⟩) (Or.inr (by simp; omega)) (.int .i64 (ung + 1))).alloc (.cells #[.int .i64 k', .string fr', .string tq', .int .i64 ix', .slice ka kids'.len kc] ( /- t -/ 189))).drew
  have k2 := (((p2.setOther (p := ⟨w.heap.size + 1 + 1, 1, none⟩) hcz (.int .i64 (recs + 1))).setOther (p := ⟨w.heap.size + 1 + 1, 2, none⟩) hcz (.int .i64 (ung + 1))).alloc (.cells #[.int .i64 k', .string fr', .string tq', .int .i64 ix', .slice ka kids'.len kc] ( /- t -/ 189))).drew
  obtain ⟨b3, o3, e4, -, -, -, -, -, -, -, -, -, -, ⟨sv3, d5, hsv3⟩, -⟩ := HA.out.head
  have hsv4 : Sl w (.slice ka kids'.len kc) kids' := by
    simp only [Option.some.injEq, Addr.mk.injEq, and_true] at e4
    obtain ⟨rfl, rfl⟩ := e4
    have := HD5.out
    simp only [Nat.zero_mul, Nat.add_zero] at d5
    rw [d5] at this
    simp only [Option.some.injEq] at this
    rw [← this]
    exact hsv3
  have hsv5 := hsv4.only hc o2
  clear e4 d5 hsv3 hsv4
  have hz3 : kids'.sz < n := by have := HN.out; simp only [F.sz] at this; omega
  refine (ih _ k' ix' (depth + 1) (recs + 1) (ung + 1) fr' tq' _ kids' c (m + 1) hz3 hsv5 k2 (by omega) (by omega) (by omega) (by omega) (by omega) (by omega) (by omega)).mono ?_
  rintro e w3 ⟨m', rfl, o3, c3, hok⟩
  have o4 := o2.trans o3
  clear o2 k2 o3 hsv5
  go_wp2_with fail
  go_ret
  have hv : vldN 3 fr tq 0 (.cons lab k' fr' tq' ix' kids' .nil) recs ung (41 - depth) = vldN k' fr' tq' ix' kids' (recs + 1) (ung + 1) (41 - (depth + 1)) := by
    rw [show 41 - (depth + 1) = 41 - depth - 1 by omega]
    unfold vldN
    rw [nodeB_shape _ _ _ _ _ _ _ _ hu, HSH.out, decide_eq_true (by omega)]
    simp [vldF]
  have hs3 : m + 1 + (kids'.sz + 1) = m + ((F.cons lab k' fr' tq' ix' kids' .nil).sz + 1) := by simp only [F.sz]; omega
  rw [hs3] at hok
  rw [hs3, ← hv]
  exact ⟨m', rfl, o4, c3, by rw [hv]; exact hok⟩

set_option maxHeartbeats 800000 in
set_option maxRecDepth 100000 in
theorem cg_msg (n : Nat) (ih : CgAt n) (w : World) (ix depth recs ung : Int) (fr tq : ByteArray) (sv : Value) (kids : F) (c m : Nat) (hn : kids.sz < n + 1) (hs : Sl w sv kids) (hc : Ctr w c m) (hm : m ≤ 399) (hd0 : 1 ≤ depth) (hd : depth ≤ 40)
    (hr : 0 ≤ recs) (hr2 : recs + 1 ≤ depth) (hu : 0 ≤ ung) (hsh : shapeB 2 fr tq ix kids = true) :
    Calls Tryd.prog 95 #[.agg #[.int .i64 2, .string fr, .string tq, .int .i64 ix, sv], .agg #[.int .i64 depth, .int .i64 recs, .int .i64 ung], .pointer (some ⟨c, 0, none⟩)] w
    (CgPost c w m (kids.sz + 1) (vldN 2 fr tq ix kids recs ung (41 - depth))) := by
  obtain ⟨e1, e2, e3, rfl, e5⟩ := shape_msg hsh
  obtain ⟨a, cap, rfl, hlen, hat⟩ := hs.at
  unfold maxLen at hlen
  have h0 := hc.cell
  have h1 : w.frozen? ⟨c, 0, none⟩ = false := hc.frozen
  have h2 := hc.lt
  have HA := hide hat
  have HS := hide hs
  have HSH := hide hsh
  have HN := hide hn
  have E1 := hide e1
  have E2 := hide e2
  have E3 := hide e3
  have E5 := hide e5
  clear hs hsh hat hn e1 e2 e3 e5
  go_enter Tryd.func95, Tryd.ntmps95
  go_wp2_with fail
  have q0 := cg_start (v0 := .int .i64 2) (v1 := .string fr) (v2 := .string tq) (v3 := .int .i64 0) (v4 := .slice a kids.len cap) (t := ( /- t -/ 39)) (x0 := .int .i64 depth) (x1 := .int .i64 recs) (x2 := .int .i64 ung) (y0 := .int .i64 (depth + 1)) (y1 := .int .i64 recs) (y2 := .int .i64 0) (u := ( /- t -/ 109)) hc (Below.refl _ _)
  refine (node_msg _ 0 fr tq _ kids (HS.out.only hc q0.1) E1.out E2.out E3.out rfl E5.out).mono ?_
  rintro e w1 ⟨rfl, hb⟩
  clear q0
  obtain ⟨p1, p2, hz, -, -, -, -, -, x0, x1, x2, y0, y1, y2, T, hT⟩ := cg_start hc (hb.mono (by simp))
  have hz1 : w.heap.size + 1 < w1.heap.size := by omega
  have hz2 : w.heap.size + 1 + 1 < w1.heap.size := by omega
  clear hb hT
  have n1 := taMsgEnd; have n2 := taMsgMsg
  go_wp2_with fail
  have oW := p1.alloc (.cells #[.string fr, .string tq, .slice a kids.len cap] ( /- t -/ 187))
  have kW := p2.alloc (.cells #[.string fr, .string tq, .slice a kids.len cap] ( /- t -/ 187))
  have hbW := alloc_below w1 (.cells #[.string fr, .string tq, .slice a kids.len cap] ( /- t -/ 187))
  have hzW : w.heap.size + 1 + 1 < (w1.alloc (.cells #[.string fr, .string tq, .slice a kids.len cap] ( /- t -/ 187))).heap.size := by simp; omega
  have yy0 := (hbW.cell (p := ⟨w.heap.size + 1 + 1, 0, none⟩) hz2).trans y0
  have yy1 := (hbW.cell (p := ⟨w.heap.size + 1 + 1, 1, none⟩) hz2).trans y1
  have yy2 := (hbW.cell (p := ⟨w.heap.size + 1 + 1, 2, none⟩) hz2).trans y2
  have hcz : w.heap.size + 1 + 1 ≠ c := by omega
  generalize (w1.alloc (.cells #[.string fr, .string tq, .slice a kids.len cap] ( /- t -/ 187))) = W at *
  clear y0 y1 y2 x0 x1 x2 p1 p2 hbW
  go_loopw [45] (fun iv wr => ∃ (g : F) (k mm : Nat), k + g.len = kids.len ∧ iv = .int .i64 k ∧ g.sz ≤ kids.sz ∧ At w a k g ∧ Ctr wr c mm ∧ mm ≤ 400 ∧ mm + g.sz = m + 1 + kids.sz ∧
    vldF kids recs 0 (41 - (depth + 1)) = vldF g recs 0 (41 - (depth + 1)) ∧ Only c W wr) (fun iv _ => kids.len - (intOf iv).toNat)
  case atStart => exact ⟨kids, 0, m + 1, by omega, rfl, Nat.le_refl _, HA.out, kW, by omega, rfl, rfl, Only.refl _ _⟩
  case round =>
    obtain ⟨g, k, mm, hk, rfl, h5, hg, kr, hmm, hsum, hvl, oR⟩ := hrel
    have HSUM := hide hsum
    have HVL := hide hvl
    have oA := oW.trans oR
    have z0 := (Same.cell (o := 0) (oR.block _ hzW hcz)).trans yy0
    have z1 := (Same.cell (o := 1) (oR.block _ hzW hcz)).trans yy1
    have z2 := (Same.cell (o := 2) (oR.block _ hzW hcz)).trans yy2
    have hzr : w.heap.size + 1 + 1 < wr.heap.size := Nat.lt_of_lt_of_le hzW oR.size
    clear hsum hvl
    have hv2 : vldN 2 fr tq 0 kids recs ung (41 - depth) = vldF kids recs 0 (41 - (depth + 1)) := by
      rw [show 41 - (depth + 1) = 41 - depth - 1 by omega]
      unfold vldN
      rw [nodeB_shape _ _ _ _ _ _ _ _ hu, HSH.out, decide_eq_true (by omega)]
      rfl
    have HV2 := hide hv2
    clear hv2
    cases g with
    | nil =>
      have H5 : Hid (k = kids.len) := by unfold Hid; simpa [F.len] using hk
      have hge : kids.len ≤ k := Nat.le_of_eq H5.out.symm
      clear hk
      go_wp2_with fail
      go_ret
      have h6 := HSUM.out
      simp only [F.sz] at h6
      have h7 : decide (m + (kids.sz + 1) ≤ 400) = true := decide_eq_true (by omega)
      exact ⟨mm, by rw [HV2.out, HVL.out, h7]; rfl, oA, kr, fun _ => by omega⟩
    | cons lab kd fr' tq' ix' kids' rest =>
      have HK : Hid (k + 1 + rest.len = kids.len) := by unfold Hid; simp only [F.len] at hk; omega
      have hlt : k < kids.len := by have := HK.out; omega
      have HZ : Hid (kids'.sz < n ∧ rest.sz ≤ kids.sz) := by have := HN.out; unfold Hid; simp only [F.sz] at h5; omega
      obtain ⟨b', o, rfl, _, _, _, _, _, q0, q1, q2, q3, q4, ⟨sv', q5, hsv0⟩, _⟩ := (hg.only hc oA).head
      obtain ⟨ka, kc, rfl, -, -⟩ := hsv0.at
      have hbr : b' < wr.heap.size := World.block_lt_of_cell? _ _ q0
      have HG := hide hg
      have HS0 := hide hsv0
      clear hk h5 hg hsv0
      go_wp2_with fail
      refine (ih _ kd ix' (depth + 1) recs 0 fr' tq' _ kids' c mm HZ.out.1 (HS0.out.still (Still.of_below (alloc_below _ _))) (kr.alloc _) hmm (by omega) (by omega) hr (by omega) (by omega) (by omega)).mono ?_
      rintro e w3 ⟨m', rfl, o3, c3, hok⟩
      have oR3 := (oR.alloc _).trans o3
      have oA3 := oW.trans oR3
      have hvk : vldF (.cons lab kd fr' tq' ix' kids' rest) recs 0 (41 - (depth + 1)) = (vldN kd fr' tq' ix' kids' recs 0 (41 - (depth + 1)) && vldF rest recs 0 (41 - (depth + 1))) := rfl
      have HVK := hide hvk
      have hs6 := HSUM.out
      simp only [F.sz] at hs6
      have HS6 := hide hs6
      clear hvk hs6 o3
      cases hb8 : (vldN kd fr' tq' ix' kids' recs 0 (41 - (depth + 1)) && decide (mm + (kids'.sz + 1) ≤ 400)) with
      | false =>
        have HB8 := hide hb8
        clear hok hb8
        go_wp2_with fail
        go_ret
        have hfin : (vldN 2 fr tq 0 kids recs ung (41 - depth) && decide (m + (kids.sz + 1) ≤ 400)) = false := by
          rw [HV2.out, HVL.out, HVK.out]
          have h8 := HB8.out
          have h6 := HS6.out
          cases hvv : vldN kd fr' tq' ix' kids' recs 0 (41 - (depth + 1)) with
          | false => rfl
          | true =>
            rw [hvv, Bool.true_and] at h8
            have h9 := of_decide_eq_false h8
            rw [decide_eq_false (by omega), Bool.and_false]
        exact ⟨m', by rw [hfin]; rfl, oA3, c3, by rw [hfin]; intro h; cases h⟩
      | true =>
        have HB8 := hide hb8
        have hm' := hok hb8
        have h10 : m' ≤ 400 := by
          simp only [Bool.and_eq_true, decide_eq_true_eq] at hb8
          omega
        have HM := hide hm'
        clear hok hb8 hm'
        go_wp2_with fail
        refine ⟨⟨rest, k + 1, m', by have := HK.out; omega, by go_num, HZ.out.2, HG.out.tail, c3, h10, ?_, ?_, oR3⟩, by simp [intOf]; omega⟩
        · have h6 := HS6.out
          have h7 := HM.out
          omega
        · rw [HVL.out, HVK.out]
          have h8 := HB8.out
          simp only [Bool.and_eq_true] at h8
          rw [h8.1, Bool.true_and]

theorem cg_all : ∀ n, CgAt n := by
  intro n
  induction n with
  | zero => intro w k ix depth recs ung fr tq sv kids c m hn; omega
  | succ n ih =>
    intro w k ix depth recs ung fr tq sv kids c m hn hs hc hm hd0 hd hr hr2 hu hu2
    by_cases hm4 : 400 ≤ m
    · exact cg_full w k ix depth recs ung fr tq sv kids c m hc hm4 hm
    by_cases hd4 : 40 < depth
    · exact cg_deep w k ix depth recs ung fr tq sv kids c m hc (by omega) hd4
    cases hsh : shapeB k fr tq ix kids with
    | false => exact cg_bad w k ix depth recs ung fr tq sv kids c m hs hc (by omega) hd0 (by omega) hu hsh
    | true =>
      by_cases h1 : k = 1
      · subst h1; exact cg_end w ix depth recs ung fr tq sv kids c m hs hc (by omega) hd0 (by omega) hu hsh
      by_cases h2 : k = 2
      · subst h2; exact cg_msg n ih w ix depth recs ung fr tq sv kids c m hn hs hc (by omega) hd0 (by omega) hr hr2 hu hsh
      by_cases h3 : k = 3
      · subst h3; exact cg_rec n ih w ix depth recs ung fr tq sv kids c m hn hs hc (by omega) hd0 (by omega) hr hr2 hu hu2 hsh
      by_cases h4 : k = 4
      · subst h4; exact cg_var w ix depth recs ung fr tq sv kids c m hs hc (by omega) hd0 (by omega) hu hsh
      · simp [shapeB, h1, h2, h3, h4] at hsh

set_option maxHeartbeats 400000 in
/-- GlobalNodes of the program. -/
theorem implNodes (w : World) (k ix : Int) (fr tq : ByteArray) (sv : Value) (kids : F) (hs : Sl w sv kids) :
    Calls Tryd.prog 50 #[.agg #[.int .i64 k, .string fr, .string tq, .int .i64 ix, sv]] w fun e w' => e = .returned (.int .i64 (nodesN k fr tq ix kids : Nat)) ∧ Below w.heap.size w w' := by
  have HS := hide hs
  clear hs
  go_enter Tryd.func50, Tryd.ntmps50
  go_wp2_with fail
  have hb1 := alloc_below w (.cells #[.int .i64 k, .string fr, .string tq, .int .i64 ix, sv] ( /- t -/ 39))
  have hb2 := hb1.alloc (by simp) (.cells #[.int .i64 0] ( /- t -/ 3))
  have hc : Ctr ((w.alloc (.cells #[.int .i64 k, .string fr, .string tq, .int .i64 ix, sv] ( /- t -/ 39))).alloc (.cells #[.int .i64 0] ( /- t -/ 3))) (w.heap.size + 1) ((0 : Nat) : Int) :=
    ⟨_, by have := alloc_last (w.alloc (.cells #[.int .i64 k, .string fr, .string tq, .int .i64 ix, sv] ( /- t -/ 39))) #[.int .i64 0] ( /- t -/ 3); simpa using this⟩
  refine (cg_all (kids.sz + 1) _ k ix 1 0 0 fr tq sv kids (w.heap.size + 1) 0 (Nat.lt_succ_self _) (HS.out.still (Still.of_below hb2)) hc (by omega) (by omega) (by omega) (by omega) (by omega) (by omega) (by omega)).mono ?_
  rintro e w1 ⟨m', rfl, o1, c1, hok⟩
  have hb3 : Below w.heap.size w w1 := hb2.trans (o1.to_below (by omega) hb2.size)
  have hcell := c1.cell
  have hlt := c1.lt
  have hv : (vldN k fr tq ix kids 0 0 (41 - 1) && decide (0 + (kids.sz + 1) ≤ 400)) = okN k fr tq ix kids := by
    unfold okN
    rw [Nat.zero_add]
    rfl
  rw [hv] at hok ⊢
  clear hc hb1 hb2 o1 c1 hv
  cases ho : okN k fr tq ix kids with
  | false =>
    have HO := hide ho
    clear hok ho
    go_wp2_with fail
    go_ret
    exact ⟨ret_int (by simp [nodesN, HO.out]), hb3⟩
  | true =>
    have HO := hide ho
    have hm := hok ho
    rw [Nat.zero_add] at hm
    subst hm
    clear hok ho
    go_wp2_with fail
    go_ret
    exact ⟨ret_int (by simp [nodesN, HO.out]), hb3⟩

set_option maxHeartbeats 400000 in
/-- GlobalValid of the program. -/
theorem implValid (w : World) (k ix : Int) (fr tq : ByteArray) (sv : Value) (kids : F) (hs : Sl w sv kids) :
    Calls Tryd.prog 38 #[.agg #[.int .i64 k, .string fr, .string tq, .int .i64 ix, sv]] w fun e w' => e = .returned (.bool (okN k fr tq ix kids)) ∧ Below w.heap.size w w' := by
  have HS := hide hs
  clear hs
  go_enter Tryd.func38, Tryd.ntmps38
  go_wp2_with fail
  refine (implNodes _ k ix fr tq sv kids (HS.out.still (Still.of_below (alloc_below _ _)))).mono ?_
  rintro e w1 ⟨rfl, hb⟩
  obtain ⟨-, -, -, -, -, -, hb2⟩ := box5 hb
  clear hb
  generalize hn : nodesN k fr tq ix kids = x
  have HN := hide hn
  clear hn
  go_wp2_with fail
  go_ret
  refine ⟨ret_bool ?_, hb2⟩
  have := HN.out
  unfold nodesN at this
  show decide _ = _
  cases ho : okN k fr tq ix kids with
  | false =>
    rw [ho] at this
    exact decide_eq_false (by simp at this; omega)
  | true =>
    rw [ho] at this
    exact decide_eq_true (by simp at this; omega)
end Go.Proofs.YtgcefippeokmcaaDoor

/- Three functions of strings.Builder at this program: the shelf's contracts laid by hand (the shelf's own command stands still at them: its structure names two types more than the bodies do). -/
namespace Go.Proofs.YtgcefippeokmcaaDoor
open Go.RowKit

/-- The table of numbers. -/
def Tryd.bl_ren : Go.Shelf.Ren := ⟨fun | 166 => ( /- f -/ 111) | 167 => ( /- f -/ 110) | 240 => ( /- f -/ 137) | 276 => ( /- f -/ 151) | n => n, fun | 0 => ( /- t -/ 0) | 3 => ( /- t -/ 3) | 4 => ( /- t -/ 4) | 5 => ( /- t -/ 5) | 9 => ( /- t -/ 9) | 20 => ( /- t -/ 20) | 37 => ( /- t -/ 22) | 70 => ( /- t -/ 71) | 72 => ( /- t -/ 73) | 75 => ( /- t -/ 136) | 80 => ( /- t -/ 78) | 164 => ( /- t -/ 201) | n => n, fun n => n⟩
theorem Tryd.bl_lays166 : Go.Proofs.Lays.n166 Tryd.prog Tryd.bl_ren where
  mixed := by kernel_rfl
  f166 := Tryd.func111.trans (congrArg some (by kernel_rfl))
  f240 := Tryd.func137.trans (congrArg some (by kernel_rfl))
  f276 := Tryd.func151.trans (congrArg some (by kernel_rfl))
  t0 := Tryd.underlying0
  a0 := Tryd.isAgg0
  z0 := Tryd.sizeOf0
  v0 := Tryd.zeroValue0
  t3 := Tryd.underlying3
  a3 := Tryd.isAgg3
  z3 := Tryd.sizeOf3
  v3 := Tryd.zeroValue3
  t4 := Tryd.underlying4
  a4 := Tryd.isAgg4
  z4 := Tryd.sizeOf4
  v4 := Tryd.zeroValue4
  t9 := Tryd.underlying9
  a9 := Tryd.isAgg9
  z9 := Tryd.sizeOf9
  v9 := Tryd.zeroValue9
  t20 := Tryd.underlying20
  a20 := Tryd.isAgg20
  z20 := Tryd.sizeOf20
  v20 := Tryd.zeroValue20
  t37 := Tryd.underlying22
  a37 := Tryd.isAgg22
  z37 := Tryd.sizeOf22
  v37 := Tryd.zeroValue22
  t70 := Tryd.underlying71
  a70 := Tryd.isAgg71
  z70 := Tryd.sizeOf71
  v70 := Tryd.zeroValue71
  t72 := Tryd.underlying73
  a72 := Tryd.isAgg73
  z72 := Tryd.sizeOf73
  v72 := Tryd.zeroValue73
  t75 := Tryd.underlying136
  a75 := Tryd.isAgg136
  z75 := Tryd.sizeOf136
  v75 := Tryd.zeroValue136
  t164 := Tryd.underlying201
  a164 := Tryd.isAgg201
  z164 := Tryd.sizeOf201
  v164 := Tryd.zeroValue201
theorem Tryd.bl_lays167 : Go.Proofs.Lays.n167 Tryd.prog Tryd.bl_ren where
  mixed := by kernel_rfl
  f167 := Tryd.func110.trans (congrArg some (by kernel_rfl))
  f240 := Tryd.func137.trans (congrArg some (by kernel_rfl))
  f276 := Tryd.func151.trans (congrArg some (by kernel_rfl))
  t0 := Tryd.underlying0
  a0 := Tryd.isAgg0
  z0 := Tryd.sizeOf0
  v0 := Tryd.zeroValue0
  t4 := Tryd.underlying4
  a4 := Tryd.isAgg4
  z4 := Tryd.sizeOf4
  v4 := Tryd.zeroValue4
  t5 := Tryd.underlying5
  a5 := Tryd.isAgg5
  z5 := Tryd.sizeOf5
  v5 := Tryd.zeroValue5
  t9 := Tryd.underlying9
  a9 := Tryd.isAgg9
  z9 := Tryd.sizeOf9
  v9 := Tryd.zeroValue9
  t20 := Tryd.underlying20
  a20 := Tryd.isAgg20
  z20 := Tryd.sizeOf20
  v20 := Tryd.zeroValue20
  t37 := Tryd.underlying22
  a37 := Tryd.isAgg22
  z37 := Tryd.sizeOf22
  v37 := Tryd.zeroValue22
  t70 := Tryd.underlying71
  a70 := Tryd.isAgg71
  z70 := Tryd.sizeOf71
  v70 := Tryd.zeroValue71
  t72 := Tryd.underlying73
  a72 := Tryd.isAgg73
  z72 := Tryd.sizeOf73
  v72 := Tryd.zeroValue73
  t75 := Tryd.underlying136
  a75 := Tryd.isAgg136
  z75 := Tryd.sizeOf136
  v75 := Tryd.zeroValue136
  t164 := Tryd.underlying201
  a164 := Tryd.isAgg201
  z164 := Tryd.sizeOf201
  v164 := Tryd.zeroValue201
theorem Tryd.bl_extra : Builder.Extra Tryd.prog Tryd.bl_ren where
  sizeBuilder := by kernel_rfl
  liesBuilder := by kernel_rfl
  t5 := Tryd.underlying5
  a5 := Tryd.isAgg5
  z5 := Tryd.sizeOf5
  v5 := Tryd.zeroValue5
  infoByte := by kernel_rfl
  cellsByte := by kernel_rfl
  sizeByte := by kernel_rfl
  neB5 := by decide

theorem write_byte (B b : Nat) (bs : List Value) (c : Int) (w : World) (h : Lib.IsBuilderF ( /- t -/ 73) ( /- t -/ 5) B b bs w) (hlen : bs.length + 1 ≤ 140737488355328) (hBw : B ≤ w.heap.size) :
    Calls Tryd.prog 110 #[.pointer (some ⟨b, 0, none⟩), .int .u8 c] w fun e w' => e = .returned .nilIface ∧ (Lib.BuilderAtF ( /- t -/ 73) ( /- t -/ 5) B b (.pointer (some ⟨b, 0, none⟩)) (bs ++ [.int .u8 c]) w' ∧ Below B w w' ∧ Lib.OthersKept ( /- t -/ 5) (some b) w w') :=
  Any.Builder_WriteByte_k Tryd.bl_lays167 Tryd.bl_extra B b bs c w h hlen hBw
theorem write_string (B b : Nat) (bs : List Value) (s : ByteArray) (w : World) (h : Lib.IsBuilderF ( /- t -/ 73) ( /- t -/ 5) B b bs w) (hlen : bs.length + s.size ≤ 140737488355328) (hBw : B ≤ w.heap.size) :
    Calls Tryd.prog 111 #[.pointer (some ⟨b, 0, none⟩), .string s] w fun e w' => e = .returned (.tuple #[.int .i64 s.size, .nilIface]) ∧ (Lib.BuilderAtF ( /- t -/ 73) ( /- t -/ 5) B b (.pointer (some ⟨b, 0, none⟩)) (bs ++ Lib.strCells s) w' ∧ Below B w w' ∧ Lib.OthersKept ( /- t -/ 5) (some b) w w') :=
  Any.Builder_WriteString_k Tryd.bl_lays166 Tryd.bl_extra B b bs s w h hlen hBw
end Go.Proofs.YtgcefippeokmcaaDoor

/- WriteRune of strings.Builder at this program: the shelf's contract laid by hand (as WriteByte's and WriteString's). -/
namespace Go.Proofs.YtgcefippeokmcaaDoor
open Go.RowKit

/-- The table of numbers. -/
def Tryd.br_ren : Go.Shelf.Ren := ⟨fun | 168 => ( /- f -/ 106) | 240 => ( /- f -/ 137) | 242 => ( /- f -/ 138) | 276 => ( /- f -/ 151) | 278 => ( /- f -/ 152) | n => n, fun | 0 => ( /- t -/ 0) | 3 => ( /- t -/ 3) | 4 => ( /- t -/ 4) | 5 => ( /- t -/ 5) | 9 => ( /- t -/ 9) | 20 => ( /- t -/ 20) | 21 => ( /- t -/ 21) | 37 => ( /- t -/ 22) | 46 => ( /- t -/ 200) | 51 => ( /- t -/ 203) | 70 => ( /- t -/ 71) | 72 => ( /- t -/ 73) | 75 => ( /- t -/ 136) | 80 => ( /- t -/ 78) | 164 => ( /- t -/ 201) | n => n, fun n => n⟩
theorem Tryd.br_lays168 : Go.Proofs.Lays.n168 Tryd.prog Tryd.br_ren where
  mixed := by kernel_rfl
  f168 := Tryd.func106.trans (congrArg some (by kernel_rfl))
  f240 := Tryd.func137.trans (congrArg some (by kernel_rfl))
  f242 := Tryd.func138.trans (congrArg some (by kernel_rfl))
  f276 := Tryd.func151.trans (congrArg some (by kernel_rfl))
  f278 := Tryd.func152.trans (congrArg some (by kernel_rfl))
  t0 := Tryd.underlying0
  a0 := Tryd.isAgg0
  z0 := Tryd.sizeOf0
  v0 := Tryd.zeroValue0
  t3 := Tryd.underlying3
  a3 := Tryd.isAgg3
  z3 := Tryd.sizeOf3
  v3 := Tryd.zeroValue3
  t4 := Tryd.underlying4
  a4 := Tryd.isAgg4
  z4 := Tryd.sizeOf4
  v4 := Tryd.zeroValue4
  t5 := Tryd.underlying5
  a5 := Tryd.isAgg5
  z5 := Tryd.sizeOf5
  v5 := Tryd.zeroValue5
  t9 := Tryd.underlying9
  a9 := Tryd.isAgg9
  z9 := Tryd.sizeOf9
  v9 := Tryd.zeroValue9
  t20 := Tryd.underlying20
  a20 := Tryd.isAgg20
  z20 := Tryd.sizeOf20
  v20 := Tryd.zeroValue20
  t21 := Tryd.underlying21
  a21 := Tryd.isAgg21
  z21 := Tryd.sizeOf21
  v21 := Tryd.zeroValue21
  t37 := Tryd.underlying22
  a37 := Tryd.isAgg22
  z37 := Tryd.sizeOf22
  v37 := Tryd.zeroValue22
  t46 := Tryd.underlying200
  a46 := Tryd.isAgg200
  z46 := Tryd.sizeOf200
  v46 := Tryd.zeroValue200
  t51 := Tryd.underlying203
  a51 := Tryd.isAgg203
  z51 := Tryd.sizeOf203
  v51 := Tryd.zeroValue203
  t70 := Tryd.underlying71
  a70 := Tryd.isAgg71
  z70 := Tryd.sizeOf71
  v70 := Tryd.zeroValue71
  t72 := Tryd.underlying73
  a72 := Tryd.isAgg73
  z72 := Tryd.sizeOf73
  v72 := Tryd.zeroValue73
  t75 := Tryd.underlying136
  a75 := Tryd.isAgg136
  z75 := Tryd.sizeOf136
  v75 := Tryd.zeroValue136
  t164 := Tryd.underlying201
  a164 := Tryd.isAgg201
  z164 := Tryd.sizeOf201
  v164 := Tryd.zeroValue201
theorem Tryd.br_extra : Builder.Extra Tryd.prog Tryd.br_ren where
  sizeBuilder := by kernel_rfl
  liesBuilder := by kernel_rfl
  t5 := Tryd.underlying5
  a5 := Tryd.isAgg5
  z5 := Tryd.sizeOf5
  v5 := Tryd.zeroValue5
  infoByte := by kernel_rfl
  cellsByte := by kernel_rfl
  sizeByte := by kernel_rfl
  neB5 := by decide

theorem write_rune (B b : Nat) (bs : List Value) (r : Int) (hr0 : 0 ≤ r) (hr1 : r ≤ 127) (w : World) (h : Lib.IsBuilderF ( /- t -/ 73) ( /- t -/ 5) B b bs w) (hlen : bs.length + 4 ≤ 140737488355328) (hBw : B ≤ w.heap.size) :
    Calls Tryd.prog 106 #[.pointer (some ⟨b, 0, none⟩), .int .i32 r] w fun e w' => e = .returned (.tuple #[.int .i64 1, .nilIface]) ∧ (Lib.BuilderAtF ( /- t -/ 73) ( /- t -/ 5) B b (.pointer (some ⟨b, 0, none⟩)) (bs ++ [.int .u8 r]) w' ∧ Below B w w' ∧ Lib.OthersKept ( /- t -/ 5) (some b) w w') := by
  have e : Lib.runeCells r = [.int .u8 r] := by
    unfold Lib.runeCells
    rw [Lib.encodeRuneZ_one hr0 hr1]
    rfl
  have := Any.Builder_WriteRune_k Tryd.br_lays168 Tryd.br_extra B b bs r (by omega) (by omega) w h hlen hBw
  rw [e] at this
  exact this
end Go.Proofs.YtgcefippeokmcaaDoor

/- rolesIn of the program: which of the three letters lie in a text. -/
namespace Go.Proofs.YtgcefippeokmcaaDoor
open Go.RowKit

/-- The letters A, B, C for which p holds. -/
def setL (p : UInt8 → Bool) : List UInt8 := [65, 66, 67].filter p
def setS (p : UInt8 → Bool) : ByteArray := ⟨(setL p).toArray⟩
theorem setL_congr {p q : UInt8 → Bool} (h : ∀ c, c = 65 ∨ c = 66 ∨ c = 67 → p c = q c) : setL p = setL q := by
  unfold setL
  simp only [List.filter_cons, List.filter_nil]
  rw [h 65 (Or.inl rfl), h 66 (Or.inr (Or.inl rfl)), h 67 (Or.inr (Or.inr rfl))]
theorem setS_congr {p q : UInt8 → Bool} (h : ∀ c, c = 65 ∨ c = 66 ∨ c = 67 → p c = q c) : setS p = setS q := by
  unfold setS
  rw [setL_congr h]
/-- The first k of them. -/
def setK (p : UInt8 → Bool) (k : Nat) : List UInt8 := ([65, 66, 67].take k).filter p

theorem setK_three (p : UInt8 → Bool) : setK p 3 = setL p := rfl
theorem setK_len (p : UInt8 → Bool) (k : Nat) : (setK p k).length ≤ 3 := by
  unfold setK
  refine Nat.le_trans (List.length_filter_le _ _) ?_
  rw [List.length_take]
  exact Nat.min_le_right _ _
theorem setK_yes {p : UInt8 → Bool} {k : Nat} {c : UInt8} (hc : [65, 66, 67][k]? = some c) (h : p c = true) : setK p (k + 1) = setK p k ++ [c] := by
  unfold setK
  rw [List.take_add_one, hc, List.filter_append]
  simp [h]
theorem setK_no {p : UInt8 → Bool} {k : Nat} {c : UInt8} (hc : [65, 66, 67][k]? = some c) (h : p c = false) : setK p (k + 1) = setK p k := by
  unfold setK
  rw [List.take_add_one, hc, List.filter_append]
  simp [h]

def hasB (s : ByteArray) (c : UInt8) : Bool := s.data.toList.contains c
theorem contains_rune (s : ByteArray) (r : Int) (c : UInt8) (hc : r = c.toNat) (h : c.toNat < 128) (w : World) :
    Calls Tryd.prog 105 #[.string s, .int .i32 r] w fun e w' => e = .returned (.bool (hasB s c)) ∧ w' = w := by
  have h0 := Tryd.strings_ContainsRune_ascii s r w (by omega) (by omega)
  have e : r.toNat.toUInt8 = c := by
    rw [hc, Int.toNat_natCast]
    exact UInt8.ofNat_toNat
  rw [e, ← Lib.contains_iff_indexByte] at h0
  exact h0
def bABC : ByteArray := ⟨#[65, 66, 67]⟩

set_option maxHeartbeats 1600000 in
set_option maxRecDepth 100000 in
/-- rolesIn of the program. -/
theorem rolesIn_calls (s : ByteArray) (w : World) :
    Calls Tryd.prog 67 #[.string s] w fun e w' => e = .returned (.string (setS (hasB s))) ∧ Below w.heap.size w w' := by
  have hI0 : Lib.IsBuilderF ( /- t -/ 73) ( /- t -/ 5) w.heap.size w.heap.size (Lib.byteCells (setK (hasB s) 0)) ((w.alloc (.cells #[.pointer none, .slice none 0 0] ( /- t -/ 73))).iter bABC 0) :=
    bu_below (Lib.IsBuilderF.of (Lib.fresh_isBuilder _ _ _)) (alloc_below _ _)
  have hk0 : ((w.alloc (.cells #[.pointer none, .slice none 0 0] ( /- t -/ 73))).iter bABC 0).heap[w.heap.size + 1]? = some (.stringIter bABC 0) := by
    have h5 := World.iter_heap (w.alloc (.cells #[.pointer none, .slice none 0 0] ( /- t -/ 73))) bABC 0
    simpa using h5
  have hb0 : Below w.heap.size w ((w.alloc (.cells #[.pointer none, .slice none 0 0] ( /- t -/ 73))).iter bABC 0) := ((Below.refl _ w).alloc (Nat.le_refl _) _).alloc (by simp) _
  have HI0 := hide hI0
  have HK0 := hide hk0
  have HB0 := hide hb0
  clear hI0 hk0 hb0
  go_enter Tryd.func67, Tryd.ntmps67
  go_wp2_with fail
  go_loopw [5] (fun _ wr => ∃ pos : Nat, pos ≤ 3 ∧ wr.heap[w.heap.size + 1]? = some (.stringIter bABC pos) ∧ Lib.IsBuilderF ( /- t -/ 73) ( /- t -/ 5) w.heap.size w.heap.size (Lib.byteCells (setK (hasB s) pos)) wr ∧ Below w.heap.size w wr)
    (fun _ wr => 3 - wr.iterPos (w.heap.size + 1))
  case atStart => exact ⟨0, Nat.zero_le _, HK0.out, HI0.out, HB0.out⟩
  case round =>
    obtain ⟨pos, hps, hk, hI, hnx⟩ := hrel
    have hsz : bABC.size = 3 := rfl
    by_cases hp : pos < 3
    · have hp' : pos < bABC.size := hp
      have hc : (bABC[pos]'hp').toNat = 65 + pos := by
        rcases (show pos = 0 ∨ pos = 1 ∨ pos = 2 by omega) with rfl | rfl | rfl <;> rfl
      have hg : [65, 66, 67][pos]? = some (bABC[pos]'hp') := by
        rcases (show pos = 0 ∨ pos = 1 ∨ pos = 2 by omega) with rfl | rfl | rfl <;> rfl
      have hnext : ∀ ty, (Instr.next (.pointer (some ⟨w.heap.size + 1, 0, none⟩)) true ty).run Tryd.prog wr = _ := fun ty => Lib.run_next_ascii_at wr (w.heap.size + 1) bABC pos ty hk hp' (by omega)
      have hI1 := hI.iterAt hk (pos + 1)
      have hk1 := Lib.iterAt_heap wr (w.heap.size + 1) bABC pos (pos + 1) hk
      have hnx1 : Below w.heap.size w (wr.iterAt (w.heap.size + 1) bABC (pos + 1)) := Lib.below_iterAt hnx (by omega) bABC (pos + 1)
      have hmu : wr.iterPos (w.heap.size + 1) = pos := by simp [World.iterPos, hk]
      generalize wr.iterAt (w.heap.size + 1) bABC (pos + 1) = W1 at hnext hI1 hk1 hnx1
      generalize (bABC[pos]'hp') = c at *
      have hlen : (Lib.byteCells (setK (hasB s) pos)).length ≤ 3 := by rw [Lib.byteCells_length]; exact setK_len _ _
      have HI1 := hide hI1
      have HK1 := hide hk1
      have HNX := hide hnx1
      have HG := hide hg
      have HMU := hide hmu
      have HCC := hide hc
      have hc128 : c.toNat < 128 := by omega
      clear hI1 hk1 hnx1 hg hI hnx hmu hk hc
      cases hh : hasB s c with
      | false =>
        go_wp2_with (first | (go_at_call 105; refine (contains_rune s _ c rfl hc128 _).mono ?_; rintro e w' ⟨rfl, hw'⟩; obtain rfl := hw'.symm) | fail)
        refine ⟨⟨pos + 1, by omega, HK1.out, ?_, HNX.out⟩, ?_⟩
        · rw [setK_no HG.out hh]
          exact HI1.out
        · have hmu2 : W1.iterPos (w.heap.size + 1) = pos + 1 := by
            have h9 := HK1.out
            simp [World.iterPos, h9]
          rw [HMU.out, hmu2]
          omega
      | true =>
        go_wp2_with (first | (go_at_call 105; refine (contains_rune s _ c rfl hc128 _).mono ?_; rintro e w' ⟨rfl, hw'⟩; obtain rfl := hw'.symm) | fail)
        refine (write_rune w.heap.size w.heap.size _ _ (by omega) (by omega) _ HI1.out (by omega) HNX.out.size).mono ?_
        rintro e W2 ⟨rfl, hat, hb2, hkept⟩
        have hk2 := hkept.iter HK1.out (by omega)
        have HAT := hide hat
        have HK2 := hide hk2
        have HB2 := hide hb2
        clear hat hk2 hb2 hkept
        go_wp2_with fail
        refine ⟨⟨pos + 1, by omega, HK2.out, ?_, HNX.out.trans HB2.out⟩, ?_⟩
        · rw [setK_yes HG.out hh]
          have e9 : Lib.byteCells (setK (hasB s) pos ++ [c]) = Lib.byteCells (setK (hasB s) pos) ++ [.int .u8 (c.toNat : Int)] := by
            unfold Lib.byteCells
            rw [List.map_append]
            rfl
          rw [e9]
          exact Or.inr HAT.out
        · have hmu2 : W2.iterPos (w.heap.size + 1) = pos + 1 := by
            have h9 := HK2.out
            simp [World.iterPos, h9]
          rw [HMU.out, hmu2]
          omega
    · have hp' : ¬ pos < bABC.size := hp
      have hnext : ∀ ty, (Instr.next (.pointer (some ⟨w.heap.size + 1, 0, none⟩)) true ty).run Tryd.prog wr = _ := fun ty => Lib.run_next_end_at wr (w.heap.size + 1) bABC pos ty hk hp'
      obtain rfl : pos = 3 := by omega
      have HI := hide hI
      have HNX := hide hnx
      clear hI hnx hk
      go_wp2_with fail
      refine (Tryd.Builder_String_any_k w.heap.size w.heap.size (setL (hasB s)) wr HI.out HNX.out.size).mono ?_
      rintro e W2 ⟨rfl, -, hb2, -⟩
      go_wp2_with fail
      go_ret
      exact ⟨rfl, HNX.out.trans hb2⟩
end Go.Proofs.YtgcefippeokmcaaDoor

/- l1Insert of the model: a letter put into an ascending string. -/
namespace Go.Proofs.YtgcefippeokmcaaDoor
open Go.RowKit

/-- A letter put into an ascending list. -/
def insB (c : UInt8) : List UInt8 → List UInt8
  | [] => [c]
  | x :: xs => if x.toNat < c.toNat then x :: insB c xs else if x = c then x :: xs else c :: x :: xs

theorem one_letter (c : UInt8) (b : Nat) (W : World) (h : W.cell? ⟨b, 0, none⟩ = some (.int .u8 c.toNat)) :
    (convert ( /- t -/ 22) ( /- t -/ 9) (.slice (some ⟨b, 0, none⟩) 1 1)).run Tryd.prog W = .ok (.string ⟨#[c]⟩) W :=
  run_convert_bytes_back (P := Tryd.prog) W ( /- t -/ 22) ( /- t -/ 9) ( /- t -/ 5) ⟨b, 0, none⟩ 1 [c] (by kernel_rfl) (by kernel_rfl) (by kernel_rfl) (by
    intro j hj
    have : j = 0 := by simpa using hj
    subst this
    exact h)

theorem insB_stop {c : UInt8} {l : List UInt8} {k : Nat} (h : insB c l = l.take k ++ insB c (l.drop k)) (hk : k < l.length) (he : l[k] = c) : insB c l = l := by
  rw [h, List.drop_eq_getElem_cons hk, he]
  have : insB c (c :: l.drop (k + 1)) = c :: l.drop (k + 1) := by simp [insB]
  rw [this]
  conv => lhs; rw [← he]
  rw [← List.drop_eq_getElem_cons hk, List.take_append_drop]
theorem insB_step {c : UInt8} {l : List UInt8} {k : Nat} (h : insB c l = l.take k ++ insB c (l.drop k)) (hk : k < l.length) (hc : l[k].toNat < c.toNat) : insB c l = l.take (k + 1) ++ insB c (l.drop (k + 1)) := by
  rw [h, List.drop_eq_getElem_cons hk]
  have : insB c (l[k] :: l.drop (k + 1)) = l[k] :: insB c (l.drop (k + 1)) := by simp [insB, hc]
  rw [this, List.take_succ_eq_append_getElem hk, List.append_assoc]
  rfl
theorem insB_put {c : UInt8} {l : List UInt8} {k : Nat} (h : insB c l = l.take k ++ insB c (l.drop k)) (hk : ∀ h : k < l.length, ¬ l[k].toNat < c.toNat ∧ ¬ l[k] = c) : insB c l = l.take k ++ c :: l.drop k := by
  rw [h]
  by_cases hl : k < l.length
  · rw [List.drop_eq_getElem_cons hl]
    simp [insB, (hk hl).1, (hk hl).2]
  · rw [List.drop_eq_nil_of_le (by omega)]
    rfl

/-- Into the letters for which p holds. -/
theorem insB_setL (p : UInt8 → Bool) (c : UInt8) (hc : c = 65 ∨ c = 66 ∨ c = 67) : insB c (setL p) = setL (fun x => x == c || p x) := by
  unfold setL
  simp only [List.filter_cons, List.filter_nil]
  generalize p 65 = a
  generalize p 66 = b
  generalize p 67 = d
  rcases hc with rfl | rfl | rfl <;> cases a <;> cases b <;> cases d <;> rfl

theorem str_eta (s : ByteArray) : s = ⟨s.data.toList.toArray⟩ := by
  cases s
  simp
theorem str_put (s : ByteArray) (c : UInt8) (k : Nat) (h : k ≤ s.size) : s.extract 0 k ++ ⟨#[c]⟩ ++ s.extract k s.size = ⟨(s.data.toList.take k ++ c :: s.data.toList.drop k).toArray⟩ := by
  have hl : s.data.toList.length = s.size := (Lib.size_eq s).symm
  apply ByteArray.ext
  apply Array.ext'
  simp only [ByteArray.data_append, ByteArray.data_extract, Array.toList_append, Array.toList_extract, List.extract_eq_take_drop, List.drop_zero, Nat.sub_zero, List.append_assoc, List.singleton_append]
  rw [List.take_of_length_le (l := List.drop k s.data.toList) (by rw [List.length_drop]; omega)]

set_option maxHeartbeats 1600000 in
set_option maxRecDepth 100000 in
theorem ins_walk (s : ByteArray) (c : UInt8) (hs : s.size ≤ 3) (w : World) :
    Calls Tryd.prog 108 #[.string s, .int .u8 c.toNat] w fun e w' => e = .returned (.string ⟨(insB c s.data.toList).toArray⟩) ∧ Below w.heap.size w w' := by
  have hsl : s.data.toList.length = s.size := (Lib.size_eq s).symm
  go_enter Tryd.func108, Tryd.ntmps108
  go_wp2_with fail
  go_loopw [5] (fun iv wr => ∃ k : Nat, iv = .int .i64 k ∧ k ≤ s.size ∧ insB c s.data.toList = s.data.toList.take k ++ insB c (s.data.toList.drop k) ∧ wr = w) (fun iv _ => s.size - (intOf iv).toNat)
  case atStart => exact ⟨0, rfl, Nat.zero_le _, rfl, rfl⟩
  case round =>
    obtain ⟨k, rfl, hk, hins, rfl⟩ := hrel
    have HI := hide hins
    clear hins
    have hconv : (convert ( /- t -/ 22) ( /- t -/ 9) (.slice (some ⟨wr.heap.size, 0, none⟩) 1 1)).run Tryd.prog ((wr.alloc (.cells #[.int .u8 c.toNat] ( /- t -/ 5))).drew) = .ok (.string ⟨#[c]⟩) ((wr.alloc (.cells #[.int .u8 c.toNat] ( /- t -/ 5))).drew) :=
      one_letter c wr.heap.size _ (by
        show (wr.alloc (.cells #[.int .u8 c.toNat] ( /- t -/ 5))).cell? ⟨wr.heap.size, 0, none⟩ = _
        rw [cell_of_heap (cs := #[.int .u8 c.toNat]) (t := ( /- t -/ 5)) (z := (0, 0)) (by show (wr.heap.push _)[wr.heap.size]? = _; simp)]
        rfl)
    by_cases hkl : k < s.size
    · have hbs : k < s.data.toList.length := by omega
      have hget : s.data.toList[k] = s[k] := by rw [Array.getElem_toList]; rfl
      by_cases hlt : s[k].toNat < c.toNat
      · have HL := hide hlt
        have HST := hide (insB_step HI.out hbs (by rw [hget]; exact hlt))
        clear hconv hget
        go_wp2_with fail
        refine ⟨⟨k + 1, by go_num, by omega, HST.out, trivial⟩, by simp [intOf]; omega⟩
      · by_cases heq : s[k] = c
        · have HST := hide (insB_stop HI.out hbs (by rw [hget]; exact heq))
          have hbe : ((s[k].toNat : Int) == (c.toNat : Int)) = true := by rw [heq]; exact beq_self_eq_true _
          clear hconv hget
          go_wp2_with fail
          go_ret
          refine ⟨?_, Below.refl _ _⟩
          rw [HST.out]
          exact congrArg (fun x => Ending.returned (Value.string x)) (str_eta s)
        · have HST := hide (insB_put HI.out (fun h => ⟨by rw [hget]; exact hlt, by rw [hget]; exact heq⟩))
          have hbe : ((s[k].toNat : Int) == (c.toNat : Int)) = false := beq_eq_false_iff_ne.2 (fun h => heq (UInt8.toNat_inj.1 (by omega)))
          clear hget
          go_wp2_with fail
          go_region
          go_wp2_with fail
          go_ret
          refine ⟨?_, (alloc_below _ _).drew⟩
          rw [HST.out]
          exact congrArg (fun x => Ending.returned (Value.string x)) (str_put s c k hk)
    · have HST := hide (insB_put HI.out (fun h => absurd h (by omega)))
      go_wp2_with fail
      go_region
      go_wp2_with fail
      go_ret
      refine ⟨?_, (alloc_below _ _).drew⟩
      rw [HST.out]
      exact congrArg (fun x => Ending.returned (Value.string x)) (str_put s c k hk)

theorem setS_size (p : UInt8 → Bool) : (setS p).size ≤ 3 := by
  have h : (setS p).size = (setL p).length := by simp [setS, ByteArray.size]
  rw [h]
  exact setK_len p 3
/-- l1Insert of the model, at the letters for which p holds. -/
theorem ins_set (p : UInt8 → Bool) (c : UInt8) (hc : c = 65 ∨ c = 66 ∨ c = 67) (w : World) :
    Calls Tryd.prog 108 #[.string (setS p), .int .u8 c.toNat] w fun e w' => e = .returned (.string (setS (fun x => x == c || p x))) ∧ Below w.heap.size w w' := by
  have h := ins_walk (setS p) c (setS_size p) w
  have e : (⟨(insB c (setS p).data.toList).toArray⟩ : ByteArray) = setS (fun x => x == c || p x) := by
    have e1 : (setS p).data.toList = setL p := rfl
    rw [e1, insB_setL p c hc]
    rfl
  rw [e] at h
  exact h
theorem hasB_iff (s : ByteArray) (c : UInt8) : hasB s c = true ↔ inB c s := by
  unfold hasB inB
  exact List.contains_iff_mem
/-- A role is one of three letters. -/
theorem role_one {s : ByteArray} (h : roleB s = true) : ∃ hs : 0 < s.size, (s[0] = 65 ∨ s[0] = 66 ∨ s[0] = 67) ∧ ∀ c, hasB s c = (c == s[0]) := by
  obtain ⟨x, rfl, hx⟩ : ∃ x : UInt8, s = ⟨#[x]⟩ ∧ (x = 65 ∨ x = 66 ∨ x = 67) := by
    simp only [roleB, Bool.or_eq_true, beq_iff_eq, ByteArray.toList_eq] at h
    rcases h with (h | h) | h
    · exact ⟨65, by rw [str_eta s, h], Or.inl rfl⟩
    · exact ⟨66, by rw [str_eta s, h], Or.inr (Or.inl rfl)⟩
    · exact ⟨67, by rw [str_eta s, h], Or.inr (Or.inr rfl)⟩
  refine ⟨Nat.zero_lt_one, hx, fun c => ?_⟩
  show [x].contains c = (c == x)
  simp only [List.contains, List.elem]
  cases c == x <;> rfl
end Go.Proofs.YtgcefippeokmcaaDoor

/- l1Roles of the model. -/
namespace Go.Proofs.YtgcefippeokmcaaDoor
open Go.RowKit

/-- Some node of the list names the letter. -/
def namFb (c : UInt8) : F → Bool
  | .nil => false
  | .cons _ k fr tq _ kids rest => ((k == 2) && (hasB fr c || hasB tq c)) || namFb c kids || namFb c rest
def namNb (c : UInt8) (k : Int) (fr tq : ByteArray) (kids : F) : Bool := ((k == 2) && (hasB fr c || hasB tq c)) || namFb c kids
theorem namFb_iff (c : UInt8) : ∀ f : F, namFb c f = true ↔ namF c f := by
  intro f
  induction f with
  | nil => simp [namFb, namF]
  | cons lab k fr tq ix kids rest ihk ihr =>
    simp only [namFb, namF, Bool.or_eq_true, Bool.and_eq_true, beq_iff_eq, ihk, ihr, hasB_iff, or_assoc]
theorem namNb_iff (c : UInt8) (k : Int) (fr tq : ByteArray) (kids : F) : namNb c k fr tq kids = true ↔ namN c k fr tq kids := by
  simp only [namNb, namN, Bool.or_eq_true, Bool.and_eq_true, beq_iff_eq, namFb_iff, hasB_iff]

theorem kids_valid {k : Int} {fr tq : ByteArray} {ix : Int} {kids : F} {b u d : Int} (hu : 0 ≤ u) (h : vldN k fr tq ix kids b u d = true) : ∃ b' u' d', 0 ≤ u' ∧ vldF kids b' u' d' = true := by
  unfold vldN at h
  obtain ⟨-, hsh, hk⟩ := node_kinds hu h
  rcases hk with rfl | ⟨-, -, -, rfl⟩ | ⟨-, h3⟩ | ⟨-, h3⟩
  · have := (shape_end hsh).2.2.2
    subst this
    exact ⟨0, 0, 0, Int.le_refl _, rfl⟩
  · exact ⟨0, 0, 0, Int.le_refl _, rfl⟩
  · exact ⟨_, _, _, by omega, h3⟩
  · exact ⟨_, _, _, Int.le_refl _, h3⟩

def RoAt (n : Nat) : Prop := ∀ (w : World) (k ix b u d : Int) (fr tq : ByteArray) (sv : Value) (kids : F) (p : UInt8 → Bool), kids.sz < n → Sl w sv kids → 0 ≤ u → vldN k fr tq ix kids b u d = true →
  Calls Tryd.prog 91 #[.string (setS p), .agg #[.int .i64 k, .string fr, .string tq, .int .i64 ix, sv]] w fun e w' => e = .returned (.string (setS (fun c => p c || namNb c k fr tq kids))) ∧ Below w.heap.size w w'

set_option maxHeartbeats 1600000 in
set_option maxRecDepth 100000 in
theorem ro_none (n : Nat) (ih : RoAt n) (w : World) (k ix b u d : Int) (fr tq : ByteArray) (sv : Value) (kids : F) (p : UInt8 → Bool) (hn : kids.sz < n + 1) (hs : Sl w sv kids) (hu : 0 ≤ u) (hv : vldN k fr tq ix kids b u d = true) (hk2 : (k == 2) = false) :
    Calls Tryd.prog 91 #[.string (setS p), .agg #[.int .i64 k, .string fr, .string tq, .int .i64 ix, sv]] w fun e w' => e = .returned (.string (setS (fun c => p c || namNb c k fr tq kids))) ∧ Below w.heap.size w w' := by
  obtain ⟨b', u', d', hu0, hvk⟩ := kids_valid hu hv
  have HV := hide hvk
  obtain ⟨a, cap, rfl, hlen, hat⟩ := hs.at
  unfold maxLen at hlen
  have HA := hide hat
  have HN := hide hn
  have hb0 := alloc_below w (.cells #[.int .i64 k, .string fr, .string tq, .int .i64 ix, .slice a kids.len cap] ( /- t -/ 39))
  have hbx := alloc_last w #[.int .i64 k, .string fr, .string tq, .int .i64 ix, .slice a kids.len cap] ( /- t -/ 39)
  have HB0 := hide hb0
  clear hs hat hn hv hvk hb0
  go_enter Tryd.func91, Tryd.ntmps91
  go_wp2_with fail
  generalize (w.alloc (.cells #[.int .i64 k, .string fr, .string tq, .int .i64 ix, .slice a kids.len cap] ( /- t -/ 39))) = W at *
  have c4 : W.cell? ⟨w.heap.size, 4, none⟩ = some (.slice a kids.len cap) := cell_of_heap (o := 4) hbx
  have hWl : w.heap.size < W.heap.size := World.block_lt_of_cell? _ _ c4
  clear hbx
  go_loopw [0, 5] (fun sv iv wr => ∃ (g : F) (j : Nat) (q : UInt8 → Bool), j + g.len = kids.len ∧ sv = .string (setS q) ∧ iv = .int .i64 j ∧ g.sz ≤ kids.sz ∧ At w a j g ∧ vldF g b' u' d' = true ∧ (∀ c, (q c || namFb c g) = (p c || namFb c kids)) ∧ wr.cell? ⟨w.heap.size, 4, none⟩ = some (.slice a kids.len cap) ∧ Below w.heap.size w wr) (fun _ iv _ => kids.len - (intOf iv).toNat)
  case atStart => exact ⟨kids, 0, _, by omega, rfl, rfl, Nat.le_refl _, HA.out, HV.out, fun _ => rfl, c4, HB0.out⟩
  case round =>
    obtain ⟨g, j, q, hk, rfl, rfl, h5, hg, hv, hq, hc4, hbw⟩ := hrel
    have HQ := hide hq
    have HB := hide hbw
    have HG := hide hg
    have HK := hide hk
    have H5 := hide h5
    clear hq h5
    cases g with
    | nil =>
      have hge : kids.len ≤ j := by simp only [F.len] at hk; omega
      clear hk hg hv hbw
      go_wp2_with fail
      go_ret
      refine ⟨?_, HB.out⟩
      refine congrArg (fun x => Ending.returned (Value.string x)) (setS_congr fun c _ => ?_)
      have := HQ.out c
      simp only [namFb, Bool.or_false] at this
      rw [this]
      simp only [namNb]
      rw [hk2, Bool.false_and, Bool.false_or]
    | cons lab kd fr' tq' ix' kids' rest =>
      have hlt : j < kids.len := by simp only [F.len] at hk; omega
      obtain ⟨bb, o, rfl, _, _, _, _, _, q0, q1, q2, q3, q4, ⟨sv', q5, hsv⟩, _⟩ := (hg.still (Still.of_below hbw)).head
      have HS := hide hsv
      simp only [vldF, Bool.and_eq_true] at hv
      have HV2 := hide hv
      clear hk hg hv hsv
      go_wp2_with fail
      refine (ih wr kd ix' b' u' d' fr' tq' sv' kids' q ?_ HS.out hu0 HV2.out.1).mono ?_
      · have h1 := HN.out
        have h2 := H5.out
        simp only [F.sz] at h2
        omega
      rintro e w3 ⟨rfl, hb5⟩
      have HB2 := hide (hbw.trans (hb5.mono hbw.size))
      have hc4' := (hb5.cell (p := ⟨w.heap.size, 4, none⟩) (World.block_lt_of_cell? _ _ hc4)).trans hc4
      clear hb5
      go_wp2_with fail
      refine ⟨⟨rest, j + 1, _, ?_, rfl, by go_num, ?_, HG.out.tail, HV2.out.2, fun c => ?_, hc4', HB2.out⟩, by simp [intOf]; omega⟩
      · have := HK.out
        simp only [F.len] at this
        omega
      · have := H5.out
        simp only [F.sz] at this
        omega
      · have h9 := HQ.out c
        simp only [namFb] at h9
        rw [← h9]
        simp only [namNb, Bool.or_assoc]

set_option maxHeartbeats 1600000 in
set_option maxRecDepth 100000 in
theorem ro_own (n : Nat) (ih : RoAt n) (w : World) (ix b u d : Int) (fr tq : ByteArray) (sv : Value) (kids : F) (p : UInt8 → Bool) (hn : kids.sz < n + 1) (hs : Sl w sv kids) (hu : 0 ≤ u) (hv : vldN 2 fr tq ix kids b u d = true) :
    Calls Tryd.prog 91 #[.string (setS p), .agg #[.int .i64 2, .string fr, .string tq, .int .i64 ix, sv]] w fun e w' => e = .returned (.string (setS (fun c => p c || namNb c 2 fr tq kids))) ∧ Below w.heap.size w w' := by
  obtain ⟨b', u', d', hu0, hvk⟩ := kids_valid hu hv
  have HV := hide hvk
  obtain ⟨a, cap, rfl, hlen, hat⟩ := hs.at
  unfold maxLen at hlen
  have HA := hide hat
  have HN := hide hn
  have hsh := (node_kinds hu (by unfold vldN at hv; exact hv)).2.1
  obtain ⟨e1, e2, -, -, -⟩ := shape_msg hsh
  obtain ⟨hf1, hf2, hf3⟩ := role_one e1
  obtain ⟨ht1, ht2, ht3⟩ := role_one e2
  have hb0 := alloc_below w (.cells #[.int .i64 2, .string fr, .string tq, .int .i64 ix, .slice a kids.len cap] ( /- t -/ 39))
  have hbx := alloc_last w #[.int .i64 2, .string fr, .string tq, .int .i64 ix, .slice a kids.len cap] ( /- t -/ 39)
  have HB0 := hide hb0
  have HF2 := hide hf2
  have HF3 := hide hf3
  have HT2 := hide ht2
  have HT3 := hide ht3
  clear hs hat hn hv hvk hb0 hf2 hf3 ht2 ht3 hsh e1 e2
  obtain ⟨s0, hs0⟩ : ∃ s0, s0 = setS p := ⟨_, rfl⟩
  obtain ⟨s1, hs1⟩ : ∃ s1, s1 = setS (fun x => x == fr[0] || p x) := ⟨_, rfl⟩
  obtain ⟨s2, hs2⟩ : ∃ s2, s2 = setS (fun x => x == tq[0] || (x == fr[0] || p x)) := ⟨_, rfl⟩
  have i1 : ∀ W : World, Calls Tryd.prog 108 #[.string s0, .int .u8 (fr[0].toNat : Int)] W fun e w' => e = .returned (.string s1) ∧ Below W.heap.size W w' := fun W => by rw [hs0, hs1]; exact ins_set p fr[0] HF2.out W
  have i2 : ∀ W : World, Calls Tryd.prog 108 #[.string s1, .int .u8 (tq[0].toNat : Int)] W fun e w' => e = .returned (.string s2) ∧ Below W.heap.size W w' := fun W => by rw [hs1, hs2]; exact ins_set _ tq[0] HT2.out W
  rw [← hs0]
  have I1 := hide i1
  have I2 := hide i2
  have HS2 := hide hs2
  clear i1 i2 hs0 hs1 hs2
  go_enter Tryd.func91, Tryd.ntmps91
  go_wp2_with fail
  generalize (w.alloc (.cells #[.int .i64 2, .string fr, .string tq, .int .i64 ix, .slice a kids.len cap] ( /- t -/ 39))) = W at *
  have c1 : W.cell? ⟨w.heap.size, 1, none⟩ = some (.string fr) := cell_of_heap (o := 1) hbx
  have c2 : W.cell? ⟨w.heap.size, 2, none⟩ = some (.string tq) := cell_of_heap (o := 2) hbx
  have c4 : W.cell? ⟨w.heap.size, 4, none⟩ = some (.slice a kids.len cap) := cell_of_heap (o := 4) hbx
  have hWl : w.heap.size < W.heap.size := World.block_lt_of_cell? _ _ c4
  clear hbx
  go_region_held3 (fun w' => w'.cell? ⟨w.heap.size, 1, none⟩ = some (.string fr) ∧ w'.cell? ⟨w.heap.size, 2, none⟩ = some (.string tq))
    (first | exact ⟨c1, c2⟩ | exact ⟨g1, g2⟩ | exact ⟨l1, l2⟩)
    ((first
      | (have hb6' := hb6; go_at_call 108; refine (I2.out _).mono ?_; rintro e w6 ⟨rfl, hb7⟩; have hst2 := hst.trans (Still.of_below hb7); have l1 := hst2 _ _ c1; have l2 := hst2 _ _ c2)
      | (go_at_call 108; refine (I1.out _).mono ?_; rintro e w5 ⟨rfl, hb6⟩; have hst := Still.of_below hb6; have g1 := hst _ _ c1; have g2 := hst _ _ c2)))
  all_goals
    have hbS : Below W.heap.size W w6 := (Below.refl W.heap.size W).drew.trans (hb6.trans (hb7.mono hb6.size))
    have d4 : w6.cell? ⟨w.heap.size, 4, none⟩ = some (.slice a kids.len cap) := (hbS.cell (p := ⟨w.heap.size, 4, none⟩) hWl).trans c4
    have HBS := hide (HB0.out.trans (hbS.mono HB0.out.size))
    clear hbS hb6 hb7 hb6' hst hst2 g1 g2 l1 l2 c1 c2 c4
    go_wp2_with fail
    go_loopw [0, 5] (fun sv iv wr => ∃ (g : F) (j : Nat) (q : UInt8 → Bool), j + g.len = kids.len ∧ sv = .string (setS q) ∧ iv = .int .i64 j ∧ g.sz ≤ kids.sz ∧ At w a j g ∧ vldF g b' u' d' = true ∧ (∀ c, (q c || namFb c g) = ((c == tq[0] || (c == fr[0] || p c)) || namFb c kids)) ∧ wr.cell? ⟨w.heap.size, 4, none⟩ = some (.slice a kids.len cap) ∧ Below w.heap.size w wr) (fun _ iv _ => kids.len - (intOf iv).toNat)
    case atStart => exact ⟨kids, 0, fun x => x == tq[0] || (x == fr[0] || p x), by omega, by rw [HS2.out], rfl, Nat.le_refl _, HA.out, HV.out, fun _ => rfl, d4, HBS.out⟩
    case round =>
      obtain ⟨g, j, q, hk, rfl, rfl, h5, hg, hv, hq, hc4, hbw⟩ := hrel
      have HQ := hide hq
      have HB := hide hbw
      have HG := hide hg
      have HK := hide hk
      have H5 := hide h5
      clear hq h5
      cases g with
      | nil =>
        have hge : kids.len ≤ j := by simp only [F.len] at hk; omega
        clear hk hg hv hbw
        go_wp2_with fail
        go_ret
        refine ⟨?_, HB.out⟩
        refine congrArg (fun x => Ending.returned (Value.string x)) (setS_congr fun c _ => ?_)
        have := HQ.out c
        simp only [namFb, Bool.or_false] at this
        rw [this]
        simp only [namNb]
        rw [HF3.out c, HT3.out c]
        cases p c <;> cases (c == fr[0]) <;> cases (c == tq[0]) <;> simp
      | cons lab kd fr' tq' ix' kids' rest =>
        have hlt : j < kids.len := by simp only [F.len] at hk; omega
        obtain ⟨bb, o, rfl, _, _, _, _, _, q0, q1, q2, q3, q4, ⟨sv', q5, hsv⟩, _⟩ := (hg.still (Still.of_below hbw)).head
        have HS := hide hsv
        simp only [vldF, Bool.and_eq_true] at hv
        have HV2 := hide hv
        clear hk hg hv hsv
        go_wp2_with fail
        refine (ih wr kd ix' b' u' d' fr' tq' sv' kids' q ?_ HS.out hu0 HV2.out.1).mono ?_
        · have h1 := HN.out
          have h2 := H5.out
          simp only [F.sz] at h2
          omega
        rintro e w3 ⟨rfl, hb5⟩
        have HB2 := hide (hbw.trans (hb5.mono hbw.size))
        have hc4' := (hb5.cell (p := ⟨w.heap.size, 4, none⟩) (World.block_lt_of_cell? _ _ hc4)).trans hc4
        clear hb5
        go_wp2_with fail
        refine ⟨⟨rest, j + 1, _, ?_, rfl, by go_num, ?_, HG.out.tail, HV2.out.2, fun c => ?_, hc4', HB2.out⟩, by simp [intOf]; omega⟩
        · have := HK.out
          simp only [F.len] at this
          omega
        · have := H5.out
          simp only [F.sz] at this
          omega
        · have h9 := HQ.out c
          simp only [namFb] at h9
          rw [← h9]
          simp only [namNb, Bool.or_assoc]

theorem ro_all : ∀ n, RoAt n := by
  intro n
  induction n with
  | zero => intro w k ix b u d fr tq sv kids p hn; omega
  | succ n ih =>
    intro w k ix b u d fr tq sv kids p hn hs hu hv
    by_cases h2 : k = 2
    · subst h2
      exact ro_own n ih w ix b u d fr tq sv kids p hn hs hu hv
    · exact ro_none n ih w k ix b u d fr tq sv kids p hn hs hu hv (beq_eq_false_iff_ne.2 h2)


/-- The roles of a global type. -/
def rolesN (k : Int) (fr tq : ByteArray) (ix : Int) (kids : F) : ByteArray := if okN k fr tq ix kids then setS (fun c => namNb c k fr tq kids) else ⟨#[]⟩
theorem rolesN_text (k : Int) (fr tq : ByteArray) (ix : Int) (kids : F) : setS (hasB (textN k fr tq ix kids)) = rolesN k fr tq ix kids := by
  unfold rolesN textN
  cases h : okN k fr tq ix kids with
  | false => rfl
  | true =>
    rw [if_pos rfl, if_pos rfl]
    unfold okN at h
    simp only [Bool.and_eq_true] at h
    refine setS_congr fun c hc => ?_
    have h1 : 65 ≤ c.toNat ∧ c.toNat ≤ 67 := by rcases hc with rfl | rfl | rfl <;> decide
    rw [Bool.eq_iff_iff, hasB_iff, namNb_iff]
    exact txN_letters h1.1 h1.2 (by omega) (by omega) (by omega) h.1

set_option maxHeartbeats 400000 in
set_option maxRecDepth 100000 in
/-- GlobalRoles of the model. -/
theorem specRoles (w : World) (k ix : Int) (fr tq : ByteArray) (sv : Value) (kids : F) (hs : Sl w sv kids) (hbig : kids.sz ≤ 1048576) :
    Calls Tryd.prog 41 #[.agg #[.int .i64 k, .string fr, .string tq, .int .i64 ix, sv]] w fun e w' => e = .returned (.string (rolesN k fr tq ix kids)) ∧ Below w.heap.size w w' := by
  have HS := hide hs
  clear hs
  go_enter Tryd.func41, Tryd.ntmps41
  go_wp2_with fail
  refine (specValid _ k ix fr tq sv kids (HS.out.still (Still.of_below (alloc_below _ _))) hbig).mono ?_
  rintro e w1 ⟨rfl, hb⟩
  obtain ⟨c0, c1, c2, c3, c4, hlt, hb2⟩ := box5 hb
  clear hb
  cases hv : okN k fr tq ix kids with
  | false =>
    go_wp2_with fail
    go_ret
    refine ⟨?_, hb2⟩
    unfold rolesN
    rw [hv]
    rfl
  | true =>
    have HV := hide hv
    have h2 := hv
    unfold okN at h2
    simp only [Bool.and_eq_true, decide_eq_true_eq] at h2
    have H2 := hide h2
    clear hv h2
    go_wp2_with fail
    refine (ro_all (kids.sz + 1) w1 k ix 0 0 40 fr tq sv kids (fun _ => false) (Nat.lt_succ_self _) (HS.out.still (Still.of_below hb2)) (by omega) H2.out.1).mono ?_
    rintro e w2 ⟨rfl, hb3⟩
    have hb4 := hb2.trans (hb3.mono hb2.size)
    clear hb3
    go_wp2_with fail
    go_ret
    refine ⟨?_, hb4⟩
    unfold rolesN
    rw [HV.out, if_pos rfl]
    exact congrArg (fun x => Ending.returned (Value.string x)) (setS_congr fun c _ => Bool.false_or _)
end Go.Proofs.YtgcefippeokmcaaDoor

/- writeGlobal of the program. -/
namespace Go.Proofs.YtgcefippeokmcaaDoor
open Go.RowKit

def WrAt (n : Nat) : Prop := ∀ (w0 w : World) (B bb : Nat) (bs : List Value) (k ix b u d : Int) (fr tq : ByteArray) (sv : Value) (kids : F), kids.sz < n → kids.sz ≤ 400 → Sl w0 sv kids → w0.heap.size ≤ B → Below w0.heap.size w0 w → B ≤ w.heap.size → 0 ≤ b → 0 ≤ u → b + d ≤ 40 →
  vldN k fr tq ix kids b u d = true → Lib.IsBuilderF ( /- t -/ 73) ( /- t -/ 5) B bb bs w → bs.length + (txN k fr tq ix kids).size ≤ 1048576 →
  Calls Tryd.prog 92 #[.pointer (some ⟨bb, 0, none⟩), .agg #[.int .i64 k, .string fr, .string tq, .int .i64 ix, sv]] w
    fun e w' => e = .returned (.tuple #[]) ∧ Lib.IsBuilderF ( /- t -/ 73) ( /- t -/ 5) B bb (bs ++ Lib.strCells (txN k fr tq ix kids)) w' ∧ Kp B bb w w'

set_option maxHeartbeats 400000 in
set_option maxRecDepth 100000 in
theorem wr_end (w0 w : World) (B bb : Nat) (bs : List Value) (ix : Int) (fr tq : ByteArray) (sv : Value) (kids : F) (hs : Sl w0 sv kids) (hw : Below w0.heap.size w0 w) (hB : B ≤ w.heap.size)
    (hsh : shapeB 1 fr tq ix kids = true) (hbu : Lib.IsBuilderF ( /- t -/ 73) ( /- t -/ 5) B bb bs w) (hlen : bs.length + (txN 1 fr tq ix kids).size ≤ 1048576) :
    Calls Tryd.prog 92 #[.pointer (some ⟨bb, 0, none⟩), .agg #[.int .i64 1, .string fr, .string tq, .int .i64 ix, sv]] w
      fun e w' => e = .returned (.tuple #[]) ∧ Lib.IsBuilderF ( /- t -/ 73) ( /- t -/ 5) B bb (bs ++ Lib.strCells (txN 1 fr tq ix kids)) w' ∧ Kp B bb w w' := by
  have HS := hide (hs.still (Still.of_below hw))
  have HSH := hide hsh
  have HBU := hide hbu
  have HL := hide hlen
  clear hs hsh hbu hlen
  go_enter Tryd.func92, Tryd.ntmps92
  go_wp2_with fail
  have hk := shape_end HSH.out
  refine (node_end _ ix fr tq sv kids (HS.out.still (Still.of_below (alloc_below _ _))) hk.1 hk.2.1 hk.2.2.1 hk.2.2.2).mono ?_
  rintro e w1 ⟨rfl, hb⟩
  have hb1 : Below w.heap.size w w1 := (alloc_below w _).trans (hb.mono (by simp))
  have hb2 := hb1.alloc hb1.size (.cells #[] ( /- t -/ 185))
  have h5 : 1 ≤ 1048576 - bs.length ∧ bs.length ≤ 1048576 := by
    have := HL.out
    have e1 : (txN 1 fr tq ix kids).size = 1 := rfl
    omega
  clear hk hb
  have n1 := taEndEnd
  go_wp2_with fail
  refine (write_byte B bb bs 46 _ (bu_below HBU.out hb2) (by omega) (Nat.le_trans hB hb2.size)).mono ?_
  rintro e w2 ⟨rfl, hat, hb3, ho3⟩
  go_wp2_with fail
  go_end0
  exact ⟨rfl, Or.inr hat, ((Kp.refl B bb w).of_below hB hb2).trans ⟨hb3, ho3⟩⟩

set_option maxHeartbeats 400000 in
set_option maxRecDepth 100000 in
theorem wr_var (w0 w : World) (B bb : Nat) (bs : List Value) (ix : Int) (fr tq : ByteArray) (sv : Value) (kids : F) (hs : Sl w0 sv kids) (hw : Below w0.heap.size w0 w) (hB : B ≤ w.heap.size) (hi0 : 0 ≤ ix) (hi1 : ix < 40)
    (hsh : shapeB 4 fr tq ix kids = true) (hbu : Lib.IsBuilderF ( /- t -/ 73) ( /- t -/ 5) B bb bs w) (hlen : bs.length + (txN 4 fr tq ix kids).size ≤ 1048576) :
    Calls Tryd.prog 92 #[.pointer (some ⟨bb, 0, none⟩), .agg #[.int .i64 4, .string fr, .string tq, .int .i64 ix, sv]] w
      fun e w' => e = .returned (.tuple #[]) ∧ Lib.IsBuilderF ( /- t -/ 73) ( /- t -/ 5) B bb (bs ++ Lib.strCells (txN 4 fr tq ix kids)) w' ∧ Kp B bb w w' := by
  obtain ⟨i, rfl⟩ := Int.eq_ofNat_of_zero_le hi0
  have h2 : (bdec i).size ≤ 2 := by
    have := decDigits_small (i := i) (by omega)
    simpa [bdec, ByteArray.size] using this
  have e1 : (⟨(Lib.decDigits i).toArray⟩ : ByteArray) = bdec i := rfl
  have HS := hide (hs.still (Still.of_below hw))
  have HSH := hide hsh
  have HBU := hide hbu
  have HL := hide hlen
  clear hs hsh hbu hlen
  go_enter Tryd.func92, Tryd.ntmps92
  go_wp2_with fail
  have hk := shape_var HSH.out
  refine (node_var _ i fr tq sv kids (HS.out.still (Still.of_below (alloc_below _ _))) hk.1 hk.2.1 hk.2.2.1 hk.2.2.2).mono ?_
  rintro e w1 ⟨rfl, hb⟩
  have hb1 : Below w.heap.size w w1 := (alloc_below w _).trans (hb.mono (by simp))
  have hb2 := hb1.alloc hb1.size (.cells #[.int .i64 i] ( /- t -/ 169))
  have h5 : bs.length + (bhash ++ bdec i).size ≤ 1048576 := HL.out
  have H5 := hide h5
  clear hk hb h5
  have n1 := taVarEnd; have n2 := taVarMsg; have n3 := taVarRec; have n4 := taVarVar
  go_wp2_with fail
  refine (Tryd.strconv_Itoa_small i (by omega) _).mono ?_
  rintro e w3 ⟨rfl, rfl⟩
  rw [e1]
  go_wp2_with fail
  refine (write_string B bb bs (bhash ++ bdec i) _ (bu_below HBU.out hb2) (by have := H5.out; omega) (Nat.le_trans hB hb2.size)).mono ?_
  rintro e w2 ⟨rfl, hat, hb3, ho3⟩
  go_wp2_with fail
  go_end0
  exact ⟨rfl, Or.inr hat, ((Kp.refl B bb w).of_below hB hb2).trans ⟨hb3, ho3⟩⟩

set_option maxHeartbeats 800000 in
set_option maxRecDepth 100000 in
theorem wr_rec (n : Nat) (ih : WrAt n) (w0 w : World) (B bb : Nat) (bs : List Value) (ix b u d : Int) (fr tq : ByteArray) (sv : Value) (kids : F) (hn : kids.sz < n + 1) (hbig : kids.sz ≤ 400) (hs : Sl w0 sv kids) (h0 : w0.heap.size ≤ B) (hw : Below w0.heap.size w0 w) (hB : B ≤ w.heap.size)
    (hb : 0 ≤ b) (hu : 0 ≤ u) (hbd : b + d ≤ 40) (hsh : shapeB 3 fr tq ix kids = true) (hv : vldF kids (b + 1) (u + 1) (d - 1) = true) (hbu : Lib.IsBuilderF ( /- t -/ 73) ( /- t -/ 5) B bb bs w) (hlen : bs.length + (txN 3 fr tq ix kids).size ≤ 1048576) :
    Calls Tryd.prog 92 #[.pointer (some ⟨bb, 0, none⟩), .agg #[.int .i64 3, .string fr, .string tq, .int .i64 ix, sv]] w
      fun e w' => e = .returned (.tuple #[]) ∧ Lib.IsBuilderF ( /- t -/ 73) ( /- t -/ 5) B bb (bs ++ Lib.strCells (txN 3 fr tq ix kids)) w' ∧ Kp B bb w w' := by
  obtain ⟨e1, e2, rfl, lab, k', fr', tq', ix', kids', rfl, e3⟩ := shape_rec hsh
  have hvn : vldN k' fr' tq' ix' kids' (b + 1) (u + 1) (d - 1) = true := by
    simp only [vldF, Bool.and_true] at hv
    exact hv
  have htx : txN 3 fr tq 0 (.cons lab k' fr' tq' ix' kids' .nil) = bat ++ txN k' fr' tq' ix' kids' := rfl
  rw [htx] at hlen ⊢
  have hl2 : bs.length + 1 + (txN k' fr' tq' ix' kids').size ≤ 1048576 := by
    rw [ByteArray.size_append] at hlen
    have e1 : bat.size = 1 := rfl
    omega
  obtain ⟨a, cap, rfl, -, hat⟩ := hs.at
  obtain ⟨b', o', rfl, -, -, -, -, -, d0, d1, d2, d3, d4, ⟨sv', d5, hsv⟩, -⟩ := hat.head
  have hb00 : Below w0.heap.size w0 (w.alloc (.cells #[.int .i64 3, .string fr, .string tq, .int .i64 0, .slice (some ⟨b', o', none⟩) 1 cap] ( /- t -/ 39))) := hw.alloc hw.size _
  have hst := Still.of_below hb00
  simp only [Nat.zero_mul, Nat.add_zero] at d0 d1 d2 d3 d4 d5
  have d0 := hst _ _ d0; have d1 := hst _ _ d1; have d2 := hst _ _ d2; have d3 := hst _ _ d3; have d4 := hst _ _ d4; have d5 := hst _ _ d5
  obtain ⟨ka, kc, rfl, -, -⟩ := hsv.at
  have HSV := hide hsv
  have HV := hide hvn
  have HN := hide hn
  have HG := hide hbig
  have HL := hide hl2
  have HBU := hide hbu
  have HW := hide hw
  have HD := hide (And.intro d0 (And.intro d1 (And.intro d2 (And.intro d3 (And.intro d4 d5)))))
  clear hs hsh hat hn hbig hsv hv hvn hlen hl2 hbu hw hst hb00 htx d0 d1 d2 d3 d4 d5
  change Calls Tryd.prog 92 #[.pointer (some ⟨bb, 0, none⟩), .agg #[.int .i64 3, .string fr, .string tq, .int .i64 0, .slice (some ⟨b', o', none⟩) 1 cap]] w _
  go_enter Tryd.func92, Tryd.ntmps92
  go_wp2_with fail
  refine (node_rec _ 0 fr tq b' o' cap lab k' ix' fr' tq' _ e1 e2 rfl e3 HD.out.1 HD.out.2.1 HD.out.2.2.1 HD.out.2.2.2.1 HD.out.2.2.2.2.1 HD.out.2.2.2.2.2).mono ?_
  rintro e w1 ⟨rfl, hb⟩
  have hb1 : Below w.heap.size w w1 := (alloc_below w _).trans (hb.mono (by simp))
  have hb2 := hb1.alloc hb1.size (.cells #[.int .i64 k', .string fr', .string tq', .int .i64 ix', .slice ka kids'.len kc] ( /- t -/ 189))
  have hcl := alloc_last w1 #[.int .i64 k', .string fr', .string tq', .int .i64 ix', .slice ka kids'.len kc] ( /- t -/ 189)
  clear hb
  have n1 := taRecEnd; have n2 := taRecMsg; have n3 := taRecRec
  go_wp2_with fail
  refine (write_byte B bb bs 64 _ (bu_below HBU.out hb2) (by have := HL.out; omega) (Nat.le_trans hB hb2.size)).mono ?_
  rintro e w2 ⟨rfl, hat, hb3, ho3⟩
  have kp := ((Kp.refl B bb w).of_below hB hb2).trans ⟨hb3, ho3⟩
  have hbw : bb < w.heap.size := by
    rcases HBU.out with h | h
    · exact h.lt
    · exact h.lt
  have hc2 := (Kp.mk hb3 ho3).cells hcl (by have := hb1.size; omega) (by decide)
  have hc0 := cell_of_heap (o := 0) hc2
  have hc1 := cell_of_heap (o := 1) hc2
  have hcc2 := cell_of_heap (o := 2) hc2
  have hc3 := cell_of_heap (o := 3) hc2
  have hc4 := cell_of_heap (o := 4) hc2
  simp only [List.getElem?_toArray, List.getElem?_cons_zero, List.getElem?_cons_succ] at hc0 hc1 hcc2 hc3 hc4
  have hlt2 : w1.heap.size < w2.heap.size := World.block_lt_of_cell? _ _ hc0
  have HAT := hide hat
  have HKP := hide kp
  clear hc2 hcl hb3 ho3 hat kp hb2
  go_wp2_with fail
  refine (ih w0 w2 B bb (bs ++ [.int .u8 64]) k' ix' (b + 1) (u + 1) (d - 1) fr' tq' _ kids' (by have := HN.out; simp only [F.sz] at this; omega) (by have := HG.out; simp only [F.sz] at this; omega) HSV.out h0 (HW.out.trans (HKP.out.below.mono h0)) (Nat.le_trans hB HKP.out.below.size) (by omega) (by omega) (by omega) HV.out (Or.inr HAT.out)
    (by have := HL.out; rw [List.length_append]; show bs.length + 1 + _ ≤ _; omega)).mono ?_
  rintro e w3 ⟨rfl, hat3, kp3⟩
  go_wp2_with fail
  go_end0
  refine ⟨rfl, ?_, HKP.out.trans kp3⟩
  rw [strCells_append]
  rw [List.append_assoc] at hat3
  exact hat3
end Go.Proofs.YtgcefippeokmcaaDoor

/- writeGlobal of the program: messages; FormatGlobal of the program. -/
namespace Go.Proofs.YtgcefippeokmcaaDoor
open Go.RowKit

set_option maxHeartbeats 800000 in
set_option maxRecDepth 100000 in
theorem wr_msg (n : Nat) (ih : WrAt n) (w0 w : World) (B bb : Nat) (bs : List Value) (ix b d : Int) (fr tq : ByteArray) (sv : Value) (kids : F) (hn : kids.sz < n + 1) (hbig : kids.sz ≤ 400) (hs : Sl w0 sv kids) (h0 : w0.heap.size ≤ B) (hw : Below w0.heap.size w0 w) (hB : B ≤ w.heap.size)
    (hb : 0 ≤ b) (hbd : b + d ≤ 40) (hsh : shapeB 2 fr tq ix kids = true) (hv : vldF kids b 0 (d - 1) = true) (hbu : Lib.IsBuilderF ( /- t -/ 73) ( /- t -/ 5) B bb bs w) (hlen : bs.length + (txN 2 fr tq ix kids).size ≤ 1048576) :
    Calls Tryd.prog 92 #[.pointer (some ⟨bb, 0, none⟩), .agg #[.int .i64 2, .string fr, .string tq, .int .i64 ix, sv]] w
      fun e w' => e = .returned (.tuple #[]) ∧ Lib.IsBuilderF ( /- t -/ 73) ( /- t -/ 5) B bb (bs ++ Lib.strCells (txN 2 fr tq ix kids)) w' ∧ Kp B bb w w' := by
  have htx : txN 2 fr tq ix kids = fr ++ tq ++ txF kids .first ++ bclose := rfl
  obtain ⟨e1, e2, e3, rfl, e5⟩ := shape_msg hsh
  have hfr : fr.size = 1 := role_size e1
  have hto : tq.size = 1 := role_size e2
  have hft : (fr ++ tq).size = 2 := by rw [ByteArray.size_append]; omega
  have hl2 : bs.length + 3 + (txF kids .first).size ≤ 1048576 := by
    rw [htx] at hlen
    simp only [ByteArray.size_append] at hlen
    have e1 : bclose.size = 1 := rfl
    omega
  obtain ⟨a, cap, rfl, hlk, hat⟩ := hs.at
  unfold maxLen at hlk
  have hs1 := hs.still (Still.of_below hw)
  have HS := hide hs1
  have HA := hide hat
  have HV := hide hv
  have HN := hide hn
  have HG := hide hbig
  have HL := hide hl2
  have HX := hide htx
  have HBU := hide hbu
  have HW := hide hw
  have HE := hide (And.intro e1 (And.intro e2 (And.intro e3 e5)))
  have hbw : bb < w.heap.size := by
    rcases hbu with h | h
    · exact h.lt
    · exact h.lt
  clear hs hsh hat hn hbig hs1 hv hlen hl2 hbu hw htx e1 e2 e3 e5
  go_enter Tryd.func92, Tryd.ntmps92
  go_wp2_with fail
  refine (node_msg _ 0 fr tq _ kids (HS.out.still (Still.of_below (alloc_below _ _))) HE.out.1 HE.out.2.1 HE.out.2.2.1 rfl HE.out.2.2.2).mono ?_
  rintro e w1 ⟨rfl, hb⟩
  have hb1 : Below w.heap.size w w1 := (alloc_below w _).trans (hb.mono (by simp))
  have hb2 := hb1.alloc hb1.size (.cells #[.string fr, .string tq, .slice a kids.len cap] ( /- t -/ 187))
  have hcl := alloc_last w1 #[.string fr, .string tq, .slice a kids.len cap] ( /- t -/ 187)
  clear hb
  have n1 := taMsgEnd; have n2 := taMsgMsg
  go_wp2_with fail
  refine (write_string B bb bs (fr ++ tq) _ (bu_below HBU.out hb2) (by have := HL.out; omega) (Nat.le_trans hB hb2.size)).mono ?_
  rintro e w2 ⟨rfl, hat, hb3, ho3⟩
  have kp := ((Kp.refl B bb w).of_below hB hb2).trans ⟨hb3, ho3⟩
  have hc2 := (Kp.mk hb3 ho3).cells hcl (by have := hb1.size; omega) (by decide)
  have hcc2 := cell_of_heap (o := 2) hc2
  simp only [List.getElem?_toArray, List.getElem?_cons_zero, List.getElem?_cons_succ] at hcc2
  have hlt2 : w1.heap.size < w2.heap.size := World.block_lt_of_cell? _ _ hcc2
  have HAT := hide hat
  have HKP := hide kp
  clear hc2 hcl hb3 ho3 hat kp hb2
  go_wp2_with fail
  go_loopw [6, 31] (fun pv iv wr => ∃ (g : F) (k : Nat) (bs' : List Value), k + g.len = kids.len ∧ pv = .string (sepB k) ∧ iv = .int .i64 k ∧ g.sz ≤ kids.sz ∧ At w0 a k g ∧ vldF g b 0 (d - 1) = true ∧
    bs' ++ Lib.strCells (txF g (md k)) = bs ++ Lib.strCells (fr ++ tq ++ txF kids .first) ∧ Lib.IsBuilderF ( /- t -/ 73) ( /- t -/ 5) B bb bs' wr ∧ Kp B bb w2 wr) (fun _ iv _ => kids.len - (intOf iv).toNat)
  case atStart => exact ⟨kids, 0, bs ++ Lib.strCells (fr ++ tq), by omega, rfl, rfl, Nat.le_refl _, HA.out, HV.out, by rw [strCells_append (fr ++ tq), List.append_assoc]; rfl, Or.inr HAT.out, Kp.refl _ _ _⟩
  case round =>
    obtain ⟨g, k, bs', hk, rfl, rfl, h5, hg, hv, htx, hbu, kpr⟩ := hrel
    have hlen' := congrArg List.length htx
    simp only [List.length_append, Lib.strCells_length, ByteArray.size_append, hfr, hto] at hlen'
    have HLB := hide hlen'
    have HTX := hide htx
    have HBR := hide hbu
    have HKR := hide kpr
    have HW2 := hide hv
    have hBr : B ≤ wr.heap.size := Nat.le_trans hB (Nat.le_trans HKP.out.below.size kpr.below.size)
    cases g with
    | nil =>
      have H5 : Hid (k = kids.len) := by unfold Hid; simpa [F.len] using hk
      have hge : kids.len ≤ k := Nat.le_of_eq H5.out.symm
      clear hk htx hv hbu kpr hlen'
      go_wp2_with fail
      refine (write_byte B bb bs' 125 _ HBR.out (by have h1 := HLB.out; have h2 := HL.out; omega) hBr).mono ?_
      rintro e w3 ⟨rfl, hat3, hb3, ho3⟩
      go_wp2_with fail
      go_end0
      refine ⟨rfl, ?_, (HKP.out.trans HKR.out).trans ⟨hb3, ho3⟩⟩
      rw [HX.out, strCells_append, ← List.append_assoc, ← HTX.out]
      have e9 : Lib.strCells (txF F.nil (md k)) = [] := rfl
      rw [e9, List.append_nil]
      exact Or.inr hat3
    | cons lab kd fr' tq' ix' kids' rest =>
      rw [txF_md] at htx
      have hlt : k < kids.len := by simp only [F.len] at hk; omega
      have hst : Still w0 wr := Still.of_below (HW.out.trans ((HKP.out.below.trans kpr.below).mono h0))
      obtain ⟨b', o, rfl, _, _, _, _, _, q0, q1, q2, q3, q4, ⟨sv', q5, hsv⟩, _⟩ := hg.head
      obtain ⟨ka, kc, rfl, -, -⟩ := hsv.at
      have q0 := hst _ _ q0; have q1 := hst _ _ q1; have q2 := hst _ _ q2; have q3 := hst _ _ q3; have q4 := hst _ _ q4; have q5 := hst _ _ q5
      have HK := hide hk
      have HX2 := hide htx
      have HSV := hide hsv
      simp only [vldF, Bool.and_eq_true] at hv
      have HVN := hide hv
      have HG2 := hide hg
      have H5 := hide h5
      have hz : bs'.length + 1 + lab.size + (txN kd fr' tq' ix' kids').size ≤ 1048576 := by
        have h1 := HLB.out
        have h2 := HL.out
        rw [txF_md] at h1
        simp only [ByteArray.size_append, sepB_size] at h1
        omega
      have hsl : (sepB k).size = 1 := sepB_size k
      have hbr := World.block_lt_of_cell? _ _ q0
      have HZ := hide hz
      have hls : lab.size ≤ 1048576 := by omega
      clear hk h5 hg hsv htx hv hbu kpr hlen' HW2 HTX hz hst
      have hb4 := alloc_below wr (.cells #[.string lab, .int .i64 kd, .string fr', .string tq', .int .i64 ix', .slice ka kids'.len kc] ( /- t -/ 54))
      have hcl := alloc_last wr #[.string lab, .int .i64 kd, .string fr', .string tq', .int .i64 ix', .slice ka kids'.len kc] ( /- t -/ 54)
      have hszr := Nat.le_trans (Nat.le_trans (Nat.le_of_lt hbw) (HKP.out.below.mono (Nat.le_refl _)).size) HKR.out.below.size
      have hbbr : bb < wr.heap.size := Nat.lt_of_lt_of_le hbw (Nat.le_trans HKP.out.below.size HKR.out.below.size)
      go_wp2_with fail
      refine (write_string B bb bs' (sepB k ++ lab) _ (bu_below HBR.out hb4) (by have := HZ.out; rw [ByteArray.size_append, hsl]; omega) (Nat.le_trans hBr hb4.size)).mono ?_
      rintro e w4 ⟨rfl, hat4, hb5, ho5⟩
      have kp4 := (HKR.out.alloc hBr (.cells #[.string lab, .int .i64 kd, .string fr', .string tq', .int .i64 ix', .slice ka kids'.len kc] ( /- t -/ 54))).trans ⟨hb5, ho5⟩
      have hd2 := (Kp.mk hb5 ho5).cells hcl (by omega) (by decide)
      have hd_1 := cell_of_heap (o := 1) hd2
      have hd_2 := cell_of_heap (o := 2) hd2
      have hd_3 := cell_of_heap (o := 3) hd2
      have hd_4 := cell_of_heap (o := 4) hd2
      have hd_5 := cell_of_heap (o := 5) hd2
      simp only [List.getElem?_toArray, List.getElem?_cons_zero, List.getElem?_cons_succ] at hd_1 hd_2 hd_3 hd_4 hd_5
      have hlt4 : wr.heap.size < w4.heap.size := World.block_lt_of_cell? _ _ hd_1
      have HAT4 := hide hat4
      have HKP4 := hide kp4
      clear hd2 hcl hb5 ho5 hat4 kp4 hb4 q0 q1 q2 q3 q4 q5
      go_wp2_with fail
      refine (ih w0 w4 B bb (bs' ++ Lib.strCells (sepB k ++ lab)) kd ix' b 0 (d - 1) fr' tq' _ kids' (by have h1 := H5.out; have h2 := HN.out; simp only [F.sz] at h1; omega) (by have h1 := H5.out; have h2 := HG.out; simp only [F.sz] at h1; omega) HSV.out h0
        (HW.out.trans ((HKP.out.trans HKP4.out).below.mono h0)) (Nat.le_trans hB (HKP.out.trans HKP4.out).below.size) (by omega) (by omega) (by omega) ?_ (Or.inr HAT4.out) (by have := HZ.out; rw [List.length_append, Lib.strCells_length, ByteArray.size_append, hsl]; omega)).mono ?_
      · exact HVN.out.1
      rintro e w5 ⟨rfl, hat5, kp5⟩
      go_wp2_with fail
      refine ⟨⟨rest, k + 1, bs' ++ Lib.strCells (sepB k ++ lab) ++ Lib.strCells (txN kd fr' tq' ix' kids'), ?_, ?_, by go_num, ?_, HG2.out.tail, HVN.out.2, ?_, hat5, HKP4.out.trans kp5⟩, by simp [intOf]; omega⟩
      · have := HK.out
        simp only [F.len] at this
        omega
      · unfold sepB
        rw [if_neg (by omega)]
        rfl
      · have := H5.out
        simp only [F.sz] at this
        omega
      · rw [← HX2.out]
        simp only [strCells_append, List.append_assoc]

theorem wr_all : ∀ n, WrAt n := by
  intro n
  induction n with
  | zero => intro w0 w B bb bs k ix b u d fr tq sv kids hn; omega
  | succ n ih =>
    intro w0 w B bb bs k ix b u d fr tq sv kids hn hbig hs h0 hw hB hb hu hbd hv hbu hlen
    have hv2 := hv
    unfold vldN at hv2
    obtain ⟨hd, hsh, hk⟩ := node_kinds hu hv2
    rcases hk with rfl | ⟨rfl, hi, hi1, -⟩ | ⟨rfl, h3⟩ | ⟨rfl, h2⟩
    · exact wr_end w0 w B bb bs ix fr tq sv kids hs hw hB hsh hbu hlen
    · exact wr_var w0 w B bb bs ix fr tq sv kids hs hw hB hi (by omega) hsh hbu hlen
    · exact wr_rec n ih w0 w B bb bs ix b u d fr tq sv kids hn hbig hs h0 hw hB hb hu hbd hsh h3 hbu hlen
    · exact wr_msg n ih w0 w B bb bs ix b d fr tq sv kids hn hbig hs h0 hw hB hb hbd hsh h2 hbu hlen
end Go.Proofs.YtgcefippeokmcaaDoor

/- FormatGlobal of the program. -/
namespace Go.Proofs.YtgcefippeokmcaaDoor
open Go.RowKit

theorem string_any (B b : Nat) (s : ByteArray) (w : World) (h : Lib.IsBuilderF ( /- t -/ 73) ( /- t -/ 5) B b (Lib.strCells s) w) (hBw : B ≤ w.heap.size) :
    Calls Tryd.prog 71 #[.pointer (some ⟨b, 0, none⟩)] w fun e w' => e = .returned (.string s) ∧ Below B w w' := by
  refine (Tryd.Builder_String_any_k B b s.data.toList w h hBw).mono ?_
  rintro e w' ⟨rfl, -, hb, -⟩
  exact ⟨rfl, hb⟩

set_option maxHeartbeats 400000 in
set_option maxRecDepth 100000 in
/-- FormatGlobal of the program. -/
theorem implFormat (w : World) (k ix : Int) (fr tq : ByteArray) (sv : Value) (kids : F) (hs : Sl w sv kids) :
    Calls Tryd.prog 48 #[.agg #[.int .i64 k, .string fr, .string tq, .int .i64 ix, sv]] w fun e w' => e = .returned (.string (textN k fr tq ix kids)) ∧ Below w.heap.size w w' := by
  have HS := hide hs
  clear hs
  go_enter Tryd.func48, Tryd.ntmps48
  go_wp2_with fail
  refine (implValid _ k ix fr tq sv kids (HS.out.still (Still.of_below (alloc_below _ _)))).mono ?_
  rintro e w1 ⟨rfl, hb⟩
  obtain ⟨c0, c1, c2, c3, c4, hlt, hb2⟩ := box5 hb
  clear hb
  cases hv : okN k fr tq ix kids with
  | false =>
    go_wp2_with fail
    go_ret
    refine ⟨?_, hb2⟩
    unfold textN
    rw [hv]
    rfl
  | true =>
    have HV := hide hv
    have h2 := hv
    unfold okN at h2
    simp only [Bool.and_eq_true, decide_eq_true_eq] at h2
    have H2 := hide h2
    have hbu : Lib.IsBuilderF ( /- t -/ 73) ( /- t -/ 5) w1.heap.size w1.heap.size [] (w1.alloc (.cells #[.pointer none, .slice none 0 0] ( /- t -/ 73))) := Lib.IsBuilderF.of (Lib.fresh_isBuilder _ _ _)
    have HBU := hide hbu
    have hb3 := alloc_below w1 (.cells #[.pointer none, .slice none 0 0] ( /- t -/ 73))
    have hsz := txN_size (b := 0) (u := 0) (by omega) (by omega) (by omega) h2.1
    have HZ : Hid ((txN k fr tq ix kids).size ≤ 1048576) := by unfold Hid; omega
    clear hv h2 hbu hsz
    go_wp2_with fail
    refine (wr_all (kids.sz + 1) w1 _ w1.heap.size w1.heap.size [] k ix 0 0 40 fr tq sv kids (Nat.lt_succ_self _) (by have := H2.out.2; omega) (HS.out.still (Still.of_below hb2)) (Nat.le_refl _) hb3 hb3.size (by omega) (by omega) (by omega) H2.out.1 HBU.out (by have := HZ.out; simpa using this)).mono ?_
    rintro e w2 ⟨rfl, hat, kp⟩
    have hb4 := hb3.trans kp.below
    have HAT := hide hat
    clear kp hat hb3
    go_wp2_with fail
    refine (string_any w1.heap.size w1.heap.size (txN k fr tq ix kids) w2 HAT.out hb4.size).mono ?_
    rintro e w3 ⟨rfl, hb5⟩
    have hb6 := hb2.trans ((hb4.trans hb5).mono hb2.size)
    clear hb4 hb5
    go_wp2_with fail
    go_ret
    refine ⟨?_, hb6⟩
    unfold textN
    rw [HV.out]
    rfl
end Go.Proofs.YtgcefippeokmcaaDoor

/- GlobalRoles of the program. -/
namespace Go.Proofs.YtgcefippeokmcaaDoor
open Go.RowKit

set_option maxHeartbeats 400000 in
set_option maxRecDepth 100000 in
/-- GlobalRoles of the program. -/
theorem implRoles (w : World) (k ix : Int) (fr tq : ByteArray) (sv : Value) (kids : F) (hs : Sl w sv kids) :
    Calls Tryd.prog 33 #[.agg #[.int .i64 k, .string fr, .string tq, .int .i64 ix, sv]] w fun e w' => e = .returned (.string (rolesN k fr tq ix kids)) ∧ Below w.heap.size w w' := by
  have HS := hide hs
  clear hs
  go_enter Tryd.func33, Tryd.ntmps33
  go_wp2_with fail
  refine (implFormat _ k ix fr tq sv kids (HS.out.still (Still.of_below (alloc_below _ _)))).mono ?_
  rintro e w1 ⟨rfl, hb⟩
  have hb2 := alloc_then hb
  have ht := rolesN_text k fr tq ix kids
  have HT := hide ht
  clear hb ht
  generalize textN k fr tq ix kids = t at *
  go_wp2_with fail
  refine (rolesIn_calls t _).mono ?_
  rintro e w2 ⟨rfl, hb3⟩
  rw [HT.out]
  have hb4 := hb2.trans (hb3.mono hb2.size)
  clear hb3
  go_wp2_with fail
  go_ret
  exact ⟨rfl, hb4⟩
end Go.Proofs.YtgcefippeokmcaaDoor

/- DrawStepGlobal of the model: a tree in memory of its own, and a text. -/
namespace Go.Proofs.YtgcefippeokmcaaDoor
open Go.RowKit

theorem gsl6 (w : World) (s0 s1 s2 s3 s4 s5 : ByteArray) (t : TypeId) (h0 : s0.size ≤ maxLen) (h1 : s1.size ≤ maxLen) (h2 : s2.size ≤ maxLen) (h3 : s3.size ≤ maxLen) (h4 : s4.size ≤ maxLen) (h5 : s5.size ≤ maxLen) :
    SlG elS (w.alloc (.cells #[.string s0, .string s1, .string s2, .string s3, .string s4, .string s5] t)) (.slice (some ⟨w.heap.size, 0, none⟩) 6 6) [s0, s1, s2, s3, s4, s5] := by
  have hh := heap_new w (.cells #[.string s0, .string s1, .string s2, .string s3, .string s4, .string s5] t)
  refine ⟨_, 6, rfl, Nat.le_refl _, by unfold maxLen; omega, Or.inr ⟨w.heap.size, 0, rfl, ⟨h0, ?_⟩, ⟨h1, ?_⟩, ⟨h2, ?_⟩, ⟨h3, ?_⟩, ⟨h4, ?_⟩, ⟨h5, ?_⟩, trivial⟩⟩
  all_goals (rw [cell_of_heap hh]; rfl)
/-- A drawn tree and a text. -/
def DrawnS (w : World) (e : Ending) (w' : World) : Prop :=
  ∃ (N : Nd) (u : Value) (bs : List Nat) (lab : ByteArray), e = .returned (.tuple #[.agg #[.int .i64 N.k, .string N.fr, .string N.tg, .int .i64 N.ix, u], .string lab]) ∧ Ow w' u N.kids bs ∧ (∀ b, b ∈ bs → w.heap.size ≤ b) ∧ bs.Nodup ∧ Below w.heap.size w w' ∧ Fit N ∧ N.kids.sz ≤ 500
theorem below_only {B c : Nat} {w a b : World} (h : Below B w a) (ho : Only c a b) (hc : B ≤ c) (hs : B ≤ a.heap.size) : Below B w b := h.trans (ho.to_below hc hs)

set_option maxHeartbeats 2000000 in
set_option maxRecDepth 100000 in
theorem drawS_calls (w : World) (sv : Value) (l : List Nat) (hs : SlG elY w sv l) : Calls Tryd.prog 34 #[sv] w (DrawnS w) := by
  have HSV := hide hs
  clear hs
  go_enter Tryd.func34, Tryd.ntmps34
  go_upto_region 1 with fail
  have hx0 := Box5.now w (.int .i64 0) (.string ⟨#[]⟩) (.string ⟨#[]⟩) (.int .i64 0) (.slice none 0 0) ( /- t -/ 39)
  have hb0 := alloc_below w (.cells #[.int .i64 0, .string ⟨#[]⟩, .string ⟨#[]⟩, .int .i64 0, .slice none 0 0] ( /- t -/ 39))
  have hz0 : (w.alloc (.cells #[.int .i64 0, .string ⟨#[]⟩, .string ⟨#[]⟩, .int .i64 0, .slice none 0 0] ( /- t -/ 39))).heap.size = w.heap.size + 1 := by simp
  generalize w.alloc (.cells #[.int .i64 0, .string ⟨#[]⟩, .string ⟨#[]⟩, .int .i64 0, .slice none 0 0] ( /- t -/ 39)) = W at *
  have HX0 := hide hx0
  have HB0 := hide hb0
  have HZ0 := hide hz0
  clear hx0 hb0 hz0
  go_wp2_with fail
  refine (open_rd W sv l (HSV.out.still (Still.of_below HB0.out))).mono ?_
  rintro e w1 ⟨cv, l', rfl, hrd, hb, hz⟩
  have HX1 := hide (HX0.out.below hb)
  have HB1 := hide (HB0.out.trans (hb.mono (by have := HZ0.out; omega)))
  have HRD := hide hrd
  have HZ1 := hide hz
  have hrbz : w.heap.size < W.heap.size := by have := HZ0.out; omega
  clear hrd hb hz HX0 HB0 HZ0
  generalize W.heap.size = rb at *
  go_wp2_with fail
  refine (local_calls w1 rb cv l' 0 HRD.out (by omega)).mono ?_
  rintro e w2 ⟨N0, u, bs0, rfl, hq, hdr⟩
  obtain ⟨ua, uc, rfl⟩ := hdr.own.val
  obtain ⟨p', hp', hrd2⟩ := hdr.rd
  have HX2 := hide (HX1.out.same (hdr.only.block _ HX1.out.lt (by omega)))
  have HB2 := hide (HB1.out.trans (hdr.only.to_below (B := w.heap.size) (by omega) (by have := HX1.out.lt; omega)))
  have HDR := hide hdr
  have HRD2 := hide hrd2
  have hw2 : w.heap.size < w2.heap.size := HX2.out.lt
  clear hdr hrd2 HX1 HB1 HRD
  go_wp2_with fail
  refine (mut_calls w2 rb cv l' p' HRD2.out (by omega) N0 _ HDR.out.own.sl HDR.out.fit (by have := HDR.out.sz; omega)).mono ?_
  rintro e w3 ⟨N, u3, bs, rfl, hq3, hdr3⟩
  obtain ⟨va, vc, rfl⟩ := hdr3.own.val
  obtain ⟨p3, hp3, hrd3⟩ := hdr3.rd
  have hbo := alloc_below w3 (.cells #[.int .i64 N.k, .string N.fr, .string N.tg, .int .i64 N.ix, .slice va N.kids.len vc] ( /- t -/ 39))
  have hz3 := hdr3.only.size
  have HX3 := hide ((HX2.out.same (hdr3.only.block _ HX2.out.lt (by omega))).below hbo)
  have HB3 := hide ((HB2.out.trans (hdr3.only.to_below (B := w.heap.size) (by omega) (by omega))).alloc (by omega) (.cells #[.int .i64 N.k, .string N.fr, .string N.tg, .int .i64 N.ix, .slice va N.kids.len vc] ( /- t -/ 39)))
  have HOW := hide (hdr3.own.same (Same.of_below hbo hdr3.own.lt))
  have HLT : Hid (∀ x, x ∈ bs → x < w3.heap.size) := hide hdr3.own.lt
  have HGE : Hid (∀ x, x ∈ bs → w.heap.size < x) := hide (fun x hx => by have := hdr3.ge x hx; omega)
  have HRB : Hid (∀ x, x ∈ bs → x ≠ rb) := hide (fun x hx => by have := hdr3.ge x hx; have := HRD2.out.lt; omega)
  have HND := hide hdr3.nd
  have HF := hide hdr3.fit
  have HSZ : Hid (N.kids.sz ≤ 500) := hide (by have h1 := hdr3.sz; have h2 := HDR.out.sz; omega)
  have HR3 := hide (hrd3.below hbo)
  have HN3 := hide (Box5.now w3 (.int .i64 N.k) (.string N.fr) (.string N.tg) (.int .i64 N.ix) (.slice va N.kids.len vc) ( /- t -/ 39))
  have hrb3 : rb < w3.heap.size := hrd3.lt
  clear hdr3 hrd3 hbo HX2 HB2 HRD2 HDR hq3 hq
  go_upto_region 3 with fail
  generalize w3.alloc (.cells #[.int .i64 N.k, .string N.fr, .string N.tg, .int .i64 N.ix, .slice va N.kids.len vc] ( /- t -/ 39)) = W3 at *
  have hw33 : w3.heap.size < W3.heap.size := HN3.out.lt
  generalize w3.heap.size = b3 at *
  refine wp_region_T (fun w' => Box5 w' b3 (.int .i64 N.k) (.string N.fr) (.string N.tg) (.int .i64 N.ix) (.slice va N.kids.len vc)) 5 (by kernel_rfl) HN3.out.drew (fun hHeld => ?_)
  refine wpAnyT_take (L := 5) (i := 0) (v := ?v0) rfl (by kernel_rfl) (by kernel_rfl) (by kernel_rfl) (by kernel_rfl) (fun _ _ _ h => h) hHeld (Or.inl ⟨by rfl, ?hy0⟩) ?rest0
  case hy0 => ((intro w' hw'); (obtain ⟨z0, z1, z2, z3, z4⟩ := hw'.cells); (go_simp); (try with_reducible rfl))
  (try simp only [Act.put]); (try simp only [List.setIfInBounds_toArray]); (try simp only [List.set_cons_zero]); (try simp only [List.set_cons_succ])
  refine wpAnyT_take (L := 5) (i := 1) (v := ?v1) rfl (by kernel_rfl) (by kernel_rfl) (by kernel_rfl) (by kernel_rfl) (fun _ _ _ h => h) hHeld (Or.inl ⟨by rfl, ?hy1⟩) ?rest1
  case hy1 => ((intro w' hw'); (obtain ⟨z0, z1, z2, z3, z4⟩ := hw'.cells); (go_simp); (try with_reducible rfl))
  (try simp only [Act.put]); (try simp only [List.setIfInBounds_toArray]); (try simp only [List.set_cons_zero]); (try simp only [List.set_cons_succ])
  refine wpAnyT_one (L := 5) (i := 2) (by kernel_rfl) rfl (fun K hK => ?_)
  go_simp
  have hbl := alloc_below W3.drew (.cells #[.string ⟨#[97]⟩, .string ⟨#[98]⟩, .string ⟨#[99]⟩, .string ⟨#[97]⟩, .string ⟨#[100]⟩, .string ⟨#[]⟩] ( /- t -/ 9))
  have HA := hide (hHeld.below hbl)
  refine hK.out _ _ (fun _ => HA.out) ?_
  clear hK K
  (try simp only [Act.put]); (try simp only [List.setIfInBounds_toArray]); (try simp only [List.set_cons_zero]); (try simp only [List.set_cons_succ])
  refine wpAnyT_one (L := 5) (i := 3) (by kernel_rfl) rfl (fun K hK => ?_)
  go_simp
  go_at_call 79
  refine (of_calls _ rb cv l' _ (HR3.out.drew.below hbl) (by omega) [⟨#[97]⟩, ⟨#[98]⟩, ⟨#[99]⟩, ⟨#[97]⟩, ⟨#[100]⟩, ⟨#[]⟩] _ (gsl6 W3.drew _ _ _ _ _ _ ( /- t -/ 9) (show (1 : Nat) ≤ maxLen by unfold maxLen; omega) (show (1 : Nat) ≤ maxLen by unfold maxLen; omega) (show (1 : Nat) ≤ maxLen by unfold maxLen; omega) (show (1 : Nat) ≤ maxLen by unfold maxLen; omega) (show (1 : Nat) ≤ maxLen by unfold maxLen; omega) (show (0 : Nat) ≤ maxLen by unfold maxLen; omega)) (by decide) (by decide) (new_far (w := W3.drew) HR3.out.lt)).mono ?_
  rintro e w5 ⟨lab, hlab, rfl, hask⟩
  have hwl : W3.heap.size < (W3.drew.alloc (.cells #[.string ⟨#[97]⟩, .string ⟨#[98]⟩, .string ⟨#[99]⟩, .string ⟨#[97]⟩, .string ⟨#[100]⟩, .string ⟨#[]⟩] ( /- t -/ 9))).heap.size := by simp
  have HN5 := hide (HA.out.same (hask.only.block b3 (by omega) (by omega)))
  have HX5 := hide ((HX3.out.drew.below hbl).same (hask.only.block _ (by have := HX3.out.lt; omega) (by omega)))
  have HB5 := hide (below_only (HB3.out.drew.trans (hbl.mono HB3.out.size)) hask.only (by omega) (by have := HX3.out.lt; omega))
  have HOW5 := hide ((HOW.out.same (w' := W3.drew) (fun _ _ => rfl)).same (w' := w5) (fun x hx => (hask.only.block x (by have := HLT.out x hx; omega) (HRB.out x hx)).trans (Below.heap_alloc _ _ _ (by have := HLT.out x hx; show x < W3.heap.size; omega))))
  refine hK.out _ _ (fun _ => HN5.out) ?_
  clear hK K hask hbl hwl
  obtain ⟨x0, x1, x2, x3, x4⟩ := HX5.out.cells
  have fx := HX5.out.frozen
  have lx := HX5.out.lt
  have hwb : w.heap.size < b3 := by omega
  (try simp only [Act.put]); (try simp only [List.setIfInBounds_toArray]); (try simp only [List.set_cons_zero]); (try simp only [List.set_cons_succ])
  refine wpAnyT_one (L := 5) (i := 4) (by kernel_rfl) rfl (fun K hK => ?_)
  go_simp
  have hne : ∀ x, x ≠ w.heap.size → (((((w5.setCell ⟨w.heap.size, 0, none⟩ (.int .i64 N.k)).setCell ⟨w.heap.size, 1, none⟩ (.string N.fr)).setCell ⟨w.heap.size, 2, none⟩ (.string N.tg)).setCell ⟨w.heap.size, 3, none⟩ (.int .i64 N.ix)).setCell ⟨w.heap.size, 4, none⟩ (.slice va N.kids.len vc)).heap[x]? = w5.heap[x]? := fun x hx =>
    (Below.heap_setCell _ _ _ _ hx).trans ((Below.heap_setCell _ _ _ _ hx).trans ((Below.heap_setCell _ _ _ _ hx).trans ((Below.heap_setCell _ _ _ _ hx).trans (Below.heap_setCell _ _ _ _ hx))))
  have HN6 := hide (HN5.out.same (hne b3 (by omega)))
  have HX6 := hide (HX5.out.setAll (.int .i64 N.k) (.string N.fr) (.string N.tg) (.int .i64 N.ix) (.slice va N.kids.len vc))
  have HB6 := hide (((((HB5.out.setCell (p := ⟨w.heap.size, 0, none⟩) (Nat.le_refl _) (.int .i64 N.k)).setCell (p := ⟨w.heap.size, 1, none⟩) (Nat.le_refl _) (.string N.fr)).setCell (p := ⟨w.heap.size, 2, none⟩) (Nat.le_refl _) (.string N.tg)).setCell (p := ⟨w.heap.size, 3, none⟩) (Nat.le_refl _) (.int .i64 N.ix)).setCell (p := ⟨w.heap.size, 4, none⟩) (Nat.le_refl _) (.slice va N.kids.len vc))
  have HOW6 := hide (HOW5.out.same (fun x hx => hne x (by have := HGE.out x hx; omega)))
  refine hK.out _ _ (fun _ => HN6.out) ?_
  clear hK K x0 x1 x2 x3 x4 fx lx hne HB5 HX5 HOW5
  generalize ((((w5.setCell ⟨w.heap.size, 0, none⟩ (.int .i64 N.k)).setCell ⟨w.heap.size, 1, none⟩ (.string N.fr)).setCell ⟨w.heap.size, 2, none⟩ (.string N.tg)).setCell ⟨w.heap.size, 3, none⟩ (.int .i64 N.ix)).setCell ⟨w.heap.size, 4, none⟩ (.slice va N.kids.len vc) = w6 at *
  (try simp only [Act.put]); (try simp only [List.setIfInBounds_toArray]); (try simp only [List.set_cons_zero]); (try simp only [List.set_cons_succ])
  refine wpAnyT_one (L := 5) (i := 5) (by kernel_rfl) rfl (fun K hK => ?_)
  go_simp
  refine hK.out _ _ (fun _ => HN6.out) ?_
  refine wpAnyT_done (by kernel_rfl) ?_ _
  clear hK K
  obtain ⟨x0, x1, x2, x3, x4⟩ := HX6.out.cells
  go_wp2_with fail
  refine bodyPost_ret (v := .tuple #[.agg #[.int .i64 N.k, .string N.fr, .string N.tg, .int .i64 N.ix, .slice va N.kids.len vc], .string lab]) (by simp [results, Tryd.results34, go_sem, *]) rfl ?_
  exact ⟨N, _, bs, lab, rfl, HOW6.out, fun x hx => Nat.le_of_lt (HGE.out x hx), HND.out, HB6.out, HF.out, HSZ.out⟩
end Go.Proofs.YtgcefippeokmcaaDoor
