/- ParseGlobal, l1Global and l1Draw of the model: a tree in memory of its own. -/
import Derived.Test.YtgcefippeokmcaaPh
import Derived.Test.YtgcefippeokmcaaDu
import Derived.Test.YtgcefippeokmcaaFm
namespace Go.Proofs.Ytgcefippeokmcaa
open Go.RowKit

theorem wk_all (s : ByteArray) (hs : s.size ≤ 1048576) : ∀ d : Nat, d ≤ 40 → WkAt s d := by
  intro d
  induction d with
  | zero => intro _ w p hp; exact wk_zero s w p hp
  | succ d ih =>
    intro hd w p hp
    have := wk_succ s hs d (by omega) (ih (by omega)) (ms_calls s hs d (by omega) (ih (by omega))) w p hp
    rw [show ((d + 1 : Nat) : Int) = (d : Int) + 1 by omega]
    exact this
/-- Some tree in new memory, and a flag. -/
def PgP (s : ByteArray) (w : World) (e : Ending) (w' : World) : Prop :=
  ∃ (N : Nd) (u : Value) (bs : List Nat) (ok : Bool), e = .returned (.tuple #[.agg #[.int .i64 N.k, .string N.fr, .string N.tg, .int .i64 N.ix, u], .bool ok]) ∧ Ow w' u N.kids bs ∧ (∀ b, b ∈ bs → w.heap.size ≤ b) ∧ bs.Nodup ∧ Below w.heap.size w w' ∧ Fit N ∧ N.kids.sz ≤ s.size
theorem pg_set {s : ByteArray} {w w2 : World} {N : Nd} {u : Value} {bs : List Nat} {ok : Bool} (how : Ow w2 u N.kids bs) (hge : ∀ x, x ∈ bs → w.heap.size < x) (hnd : bs.Nodup) (hb : Below w.heap.size w w2) (hf : Fit N) (hs : N.kids.sz ≤ s.size) (v0 v1 v2 v3 v4 : Value) :
    PgP s w (.returned (.tuple #[.agg #[.int .i64 N.k, .string N.fr, .string N.tg, .int .i64 N.ix, u], .bool ok])) (((((w2.setCell ⟨w.heap.size, 0, none⟩ v0).setCell ⟨w.heap.size, 1, none⟩ v1).setCell ⟨w.heap.size, 2, none⟩ v2).setCell ⟨w.heap.size, 3, none⟩ v3).setCell ⟨w.heap.size, 4, none⟩ v4) := by
  have hne : ∀ x, x ≠ w.heap.size → (((((w2.setCell ⟨w.heap.size, 0, none⟩ v0).setCell ⟨w.heap.size, 1, none⟩ v1).setCell ⟨w.heap.size, 2, none⟩ v2).setCell ⟨w.heap.size, 3, none⟩ v3).setCell ⟨w.heap.size, 4, none⟩ v4).heap[x]? = w2.heap[x]? := fun x hx =>
    (Below.heap_setCell _ _ _ _ hx).trans ((Below.heap_setCell _ _ _ _ hx).trans ((Below.heap_setCell _ _ _ _ hx).trans ((Below.heap_setCell _ _ _ _ hx).trans (Below.heap_setCell _ _ _ _ hx))))
  exact ⟨N, u, bs, ok, rfl, how.same (fun x hx => hne x (by have := hge x hx; omega)), fun x hx => Nat.le_of_lt (hge x hx), hnd, ((((hb.setCell (Nat.le_refl _) _).setCell (Nat.le_refl _) _).setCell (Nat.le_refl _) _).setCell (Nat.le_refl _) _).setCell (Nat.le_refl _) _, hf, hs⟩

set_option maxHeartbeats 1600000 in
set_option maxRecDepth 100000 in
theorem parseG (w : World) (s : ByteArray) (hs : s.size ≤ 1048576) : Calls Try.prog 10 #[.string s] w (PgP s w) := by
  have HP := hide (wk_all s hs 40 (by omega))
  go_enter Try.func10, Try.ntmps10
  go_wp2_with fail
  have hx := Box5.now w (.int .i64 0) (.string ⟨#[]⟩) (.string ⟨#[]⟩) (.int .i64 0) (.slice none 0 0) ( /- t -/ 25)
  have hb1 := alloc_below w (.cells #[.int .i64 0, .string ⟨#[]⟩, .string ⟨#[]⟩, .int .i64 0, .slice none 0 0] ( /- t -/ 25))
  have hw1 : w.heap.size < (w.alloc (.cells #[.int .i64 0, .string ⟨#[]⟩, .string ⟨#[]⟩, .int .i64 0, .slice none 0 0] ( /- t -/ 25))).heap.size := by simp
  generalize w.alloc (.cells #[.int .i64 0, .string ⟨#[]⟩, .string ⟨#[]⟩, .int .i64 0, .slice none 0 0] ( /- t -/ 25)) = W at *
  refine (HP.out W 0 (Nat.zero_le _)).mono ?_
  rintro e w4 ⟨N, u, bs, nx, rfl, how, hge, hnd, hb4, hf, hn⟩
  obtain ⟨ua, uc, rfl⟩ := how.val
  have HX4 := hide ((hx.below hb4).below (alloc_below w4 (.cells #[.int .i64 N.k, .string N.fr, .string N.tg, .int .i64 N.ix, .slice ua N.kids.len uc] ( /- t -/ 25))))
  have HB4 := hide ((hb1.trans (hb4.mono hb1.size)).alloc (Nat.le_trans hb1.size hb4.size) (.cells #[.int .i64 N.k, .string N.fr, .string N.tg, .int .i64 N.ix, .slice ua N.kids.len uc] ( /- t -/ 25)))
  have HN4 := hide (Box5.now w4 (.int .i64 N.k) (.string N.fr) (.string N.tg) (.int .i64 N.ix) (.slice ua N.kids.len uc) ( /- t -/ 25))
  have HOW := hide (how.same (Same.of_below (alloc_below w4 (.cells #[.int .i64 N.k, .string N.fr, .string N.tg, .int .i64 N.ix, .slice ua N.kids.len uc] ( /- t -/ 25))) how.lt))
  have HGE : Hid (∀ x, x ∈ bs → w.heap.size < x) := hide (fun x hx => by have := hge x hx; omega)
  have HND := hide hnd
  have HF := hide hf
  have hsz : N.kids.sz ≤ s.size := by rcases hn with ⟨-, h⟩ | ⟨q, -, -, h1, h2⟩ <;> omega
  clear hx hb1 how hge hnd hb4 hf
  go_upto_region 2 with fail
  generalize w4.alloc (.cells #[.int .i64 N.k, .string N.fr, .string N.tg, .int .i64 N.ix, .slice ua N.kids.len uc] ( /- t -/ 25)) = W4 at *
  generalize w4.heap.size = b4 at *
  obtain ⟨x0, x1, x2, x3, x4⟩ := HX4.out.cells
  have fx := HX4.out.frozen
  have lx := HX4.out.lt
  obtain ⟨y0, y1, y2, y3, y4⟩ := HN4.out.cells
  have ly := HN4.out.lt
  by_cases hq : nx = (s.size : Int)
  case neg =>
    go_wp2_with fail
    refine bodyPost_ret (v := .tuple #[.agg #[.int .i64 0, .string ⟨#[]⟩, .string ⟨#[]⟩, .int .i64 0, .slice none 0 0], .bool false]) (by simp [results, Try.results10, go_sem, *]) rfl ?_
    exact pg_set (N := ⟨0, ⟨#[]⟩, ⟨#[]⟩, 0, .nil⟩) (bs := []) ⟨none, 0, rfl, Nat.le_refl _, Nat.zero_le _, Or.inl ⟨rfl, rfl⟩⟩ (fun x hx => absurd hx List.not_mem_nil) List.nodup_nil HB4.out ⟨Nat.zero_le _, Nat.zero_le _, show (Lit.int .i64 0).wf = true by decide, show (Lit.int .i64 0).wf = true by decide⟩ (Nat.zero_le _) _ _ _ _ _
  case pos =>
    subst hq
    have hs0 : 0 < s.size := by
      rcases hn with ⟨h, -⟩ | ⟨q, h, h1, -, -⟩ <;> omega
    have hne1 : ¬ s.toList = [] := fun h => by
      rw [ByteArray.toList_eq] at h
      have h3 : s.data.toList.length = s.size := Array.length_toList
      rw [h] at h3
      have h4 : ([] : List UInt8).length = 0 := rfl
      omega
    have he : s.toList.isEmpty = false := by
      cases h : s.toList with
      | nil => exact absurd h hne1
      | cons a b => rfl
    clear hn
    go_wp2_with fail
    refine (specFormat W4 N.k N.ix N.fr N.tg (.slice ua N.kids.len uc) N.kids HOW.out.sl (by omega)).mono ?_
    rintro e w2 ⟨rfl, hb⟩
    have HX2 := hide (HX4.out.below hb)
    have HN2 := hide (HN4.out.below hb)
    have HB2 := hide (HB4.out.trans (hb.mono HB4.out.size))
    have HOW2 := hide (HOW.out.same (Same.of_below hb HOW.out.lt))
    clear hb x0 x1 x2 x3 x4 fx lx y0 y1 y2 y3 y4 ly HX4 HN4 HB4 HOW
    obtain ⟨x0, x1, x2, x3, x4⟩ := HX2.out.cells
    have fx := HX2.out.frozen
    have lx := HX2.out.lt
    obtain ⟨y0, y1, y2, y3, y4⟩ := HN2.out.cells
    have ly := HN2.out.lt
    by_cases heq : textN N.k N.fr N.tg N.ix N.kids = s
    · rw [heq]
      clear heq
      go_wp2_with fail
      refine bodyPost_ret (v := .tuple #[.agg #[.int .i64 N.k, .string N.fr, .string N.tg, .int .i64 N.ix, .slice ua N.kids.len uc], .bool true]) (by simp [results, Try.results10, go_sem, *]) rfl ?_
      exact pg_set HOW2.out HGE.out HND.out HB2.out HF.out hsz _ _ _ _ _
    · have hnb : ((textN N.k N.fr N.tg N.ix N.kids).toList == s.toList) = false := beq_eq_false_iff_ne.2 (fun h => heq (by
        rw [ByteArray.toList_eq, ByteArray.toList_eq] at h
        exact ByteArray.ext (Array.toList_inj.1 h)))
      generalize textN N.k N.fr N.tg N.ix N.kids = tt at *
      clear heq
      go_wp2_with fail
      refine bodyPost_ret (v := .tuple #[.agg #[.int .i64 0, .string ⟨#[]⟩, .string ⟨#[]⟩, .int .i64 0, .slice none 0 0], .bool false]) (by simp [results, Try.results10, go_sem, *]) rfl ?_
      exact pg_set (N := ⟨0, ⟨#[]⟩, ⟨#[]⟩, 0, .nil⟩) (bs := []) ⟨none, 0, rfl, Nat.le_refl _, Nat.zero_le _, Or.inl ⟨rfl, rfl⟩⟩ (fun x hx => absurd hx List.not_mem_nil) List.nodup_nil HB2.out ⟨Nat.zero_le _, Nat.zero_le _, show (Lit.int .i64 0).wf = true by decide, show (Lit.int .i64 0).wf = true by decide⟩ (Nat.zero_le _) _ _ _ _ _

set_option maxHeartbeats 800000 in
theorem exa_calls (w : World) (v : Nat) (hv : v < 10) : Calls Try.prog 54 #[.int .i64 (v : Int)] w fun e w' => (∃ s : ByteArray, s.size ≤ 100 ∧ e = .returned (.string s)) ∧ w' = w := by
  have h : v = 0 ∨ v = 1 ∨ v = 2 ∨ v = 3 ∨ v = 4 ∨ v = 5 ∨ v = 6 ∨ v = 7 ∨ v = 8 ∨ v = 9 := by omega
  rcases h with rfl | rfl | rfl | rfl | rfl | rfl | rfl | rfl | rfl | rfl
  all_goals
    (go_enter Try.func54, Try.ntmps54
     go_wp2_with fail
     go_ret
     exact ⟨⟨_, by decide, rfl⟩, rfl⟩)

theorem sl4i (w : World) (s0 s1 s2 s3 : Int) (t : TypeId) :
    SlG elI64 (w.alloc (.cells #[.int .i64 s0, .int .i64 s1, .int .i64 s2, .int .i64 s3] t)) (.slice (some ⟨w.heap.size, 0, none⟩) 4 4) [s0, s1, s2, s3] := by
  have hh := heap_new w (.cells #[.int .i64 s0, .int .i64 s1, .int .i64 s2, .int .i64 s3] t)
  refine ⟨_, 4, rfl, Nat.le_refl _, by unfold maxLen; omega, Or.inr ⟨w.heap.size, 0, rfl, ?_, ?_, ?_, ?_, trivial⟩⟩
  all_goals (show World.cell? _ _ = _; rw [cell_of_heap hh]; rfl)
theorem size_all {fr : ByteArray} {L : List ByteArray} (n : Nat) (h : fr ∈ L) (hL : L.all (fun s => decide (s.size ≤ n)) = true) : fr.size ≤ n := of_decide_eq_true (List.all_eq_true.1 hL fr h)
theorem qs_le4 {D : Nat} (h : D ≤ 4) : qs D ≤ 2304 ∧ zs D ≤ 120 := by
  have : D = 0 ∨ D = 1 ∨ D = 2 ∨ D = 3 ∨ D = 4 := by omega
  rcases this with rfl | rfl | rfl | rfl | rfl <;> decide

set_option maxHeartbeats 2000000 in
set_option maxRecDepth 100000 in
theorem local_calls (w : World) (rb : Nat) (cv : Value) (l : List Nat) (p : Nat) (h : Rd w rb cv l p) (hp : p + 3000 ≤ 1000000) :
    Calls Try.prog 35 #[.pointer (some ⟨rb, 0, none⟩)] w (DrP (fun _ => True) w rb cv l p 2310 400) := by
  have hrb := h.lt
  have HS := hide (St.new h ( /- t -/ 25))
  clear h
  go_enter Try.func35, Try.ntmps35
  go_upto_region 1 with fail
  generalize w.alloc (.cells #[.int .i64 0, .string ⟨#[]⟩, .string ⟨#[]⟩, .int .i64 0, .slice none 0 0] ( /- t -/ 25)) = W at *
  go_wp2_with fail
  refine (pick_calls _ rb cv l _ HS.out.rd (by omega) 2 (by omega)).mono ?_
  rintro e w1 ⟨v, rfl, hv, hask⟩
  have H1 := hide (HS.out.ask hask)
  clear hask HS
  by_cases hv0 : v = 0
  case pos =>
    subst hv0
    go_wp2_with fail
    refine (pick_calls _ rb cv l _ H1.out.rd (by omega) 10 (by omega)).mono ?_
    rintro e w2 ⟨vx, rfl, hvx, hask⟩
    have H2 := hide (H1.out.ask hask)
    clear hask
    go_wp2_with fail
    refine (exa_calls w2 vx (by omega)).mono ?_
    rintro e w2' ⟨⟨s, hsz, rfl⟩, hw2⟩
    subst hw2
    go_wp2_with fail
    refine (parseG _ s (by omega)).mono ?_
    rintro e w3 ⟨N, u, bs, ok, rfl, how, hge, hnd, hb, hf, hns⟩
    have HO := hide (And.intro hf hns)
    clear hf hns
    obtain ⟨ua, uc, rfl⟩ := how.val
    have H3 := hide (H2.out.below hb)
    have HOW := hide how
    have HGE : Hid (∀ x, x ∈ bs → w.heap.size < x) := hide (fun x hx => by have h1 := hge x hx; have h2 := H2.out.box.lt; omega)
    have HND := hide hnd
    obtain ⟨x0, x1, x2, x3, x4⟩ := H3.out.box.cells
    have fx := H3.out.box.frozen
    have lx := H3.out.box.lt
    clear how hge hnd hb
    go_wp2_with fail
    try rw [set5_alloc _ _ _ _ _ _ _ _ lx]
    have H4 := hide (H3.out.alloc (.cells #[.int .i64 N.k, .string N.fr, .string N.tg, .int .i64 N.ix, .slice ua N.kids.len uc] ( /- t -/ 25)))
    have HOW4 := hide (HOW.out.same (Same.of_below (alloc_below w3 (.cells #[.int .i64 N.k, .string N.fr, .string N.tg, .int .i64 N.ix, .slice ua N.kids.len uc] ( /- t -/ 25))) HOW.out.lt))
    refine bodyPost_ret (v := .agg #[.int .i64 N.k, .string N.fr, .string N.tg, .int .i64 N.ix, .slice ua N.kids.len uc]) (by simp [results, Try.results35, go_sem, *]) rfl ?_
    exact ⟨⟨N.k, N.fr, N.tg, N.ix, N.kids⟩, _, bs, rfl, trivial, dr_fin (N := ⟨N.k, N.fr, N.tg, N.ix, N.kids⟩) H4.out.start H4.out.only H4.out.rd (by omega) HOW4.out w.heap.size (Nat.le_refl _) HGE.out HND.out HO.out.1 (Nat.le_trans HO.out.2 (by omega)) _ _ _ _ _⟩
  case neg =>
    have hv1 : ((v : Int) == 0) = false := beq_eq_false_iff_ne.2 (by omega)
    have hv2 : ¬ (v : Int) = 0 := by omega
    go_wp2_with fail
    have HA0 := hide (H1.out.alloc (.cells #[.int .i64 3, .int .i64 2, .int .i64 4, .int .i64 1] ( /- t -/ 3)))
    refine (num_calls _ rb cv l _ HA0.out.rd (by omega) [3, 2, 4, 1] _ (sl4i w1 _ _ _ _ ( /- t -/ 3)) (by decide) (by decide) (new_far H1.out.rd.lt)).mono ?_
    rintro e w2 ⟨nv, hnv, rfl, hask⟩
    have H2 := hide (HA0.out.ask hask)
    have hD : ∃ D : Nat, D ≤ 4 ∧ nv = (D : Int) := by
      simp only [List.mem_cons, List.not_mem_nil, or_false] at hnv
      exact ⟨nv.toNat, by omega, by omega⟩
    obtain ⟨D, hD4, rfl⟩ := hD
    obtain ⟨hq, hz⟩ := qs_le4 hD4
    clear hask HA0 hnv
    go_wp2_with fail
    refine (rand_all D (by omega) w2 rb cv l _ H2.out.rd (by omega) 0 0 (by omega) (by omega) (by omega)).mono ?_
    rintro e w3 ⟨N, un, bs, rfl, hqn, hdr⟩
    obtain ⟨ua, uc, rfl⟩ := hdr.own.val
    obtain ⟨p', hp', hrd⟩ := hdr.rd
    have H3 := hide (H2.out.on hdr.only hrd)
    have HDR := hide hdr
    obtain ⟨x0, x1, x2, x3, x4⟩ := H3.out.box.cells
    have fx := H3.out.box.frozen
    have lx := H3.out.box.lt
    clear hdr hrd
    go_wp2_with fail
    refine bodyPost_ret (v := .agg #[.int .i64 N.k, .string N.fr, .string N.tg, .int .i64 N.ix, .slice ua N.kids.len uc]) (by simp [results, Try.results35, go_sem, *]) rfl ?_
    exact ⟨N, _, bs, rfl, trivial, dr_fin H3.out.start H3.out.only H3.out.rd (by omega) HDR.out.own w.heap.size (Nat.le_refl _) (fun x hx => by have h1 := HDR.out.ge x hx; have h2 := H2.out.box.lt; omega) HDR.out.nd HDR.out.fit (Nat.le_trans HDR.out.sz (by omega)) _ _ _ _ _⟩

/-- A drawn tree: memory of its own, of moderate size. -/
def Drawn (w : World) (e : Ending) (w' : World) : Prop :=
  ∃ (N : Nd) (u : Value) (bs : List Nat), e = .returned (.agg #[.int .i64 N.k, .string N.fr, .string N.tg, .int .i64 N.ix, u]) ∧ Ow w' u N.kids bs ∧ (∀ b, b ∈ bs → w.heap.size ≤ b) ∧ bs.Nodup ∧ Below w.heap.size w w' ∧ Fit N ∧ N.kids.sz ≤ 500

theorem drawn_set {w w2 : World} {N : Nd} {u : Value} {bs : List Nat} (how : Ow w2 u N.kids bs) (hge : ∀ x, x ∈ bs → w.heap.size < x) (hnd : bs.Nodup) (hb : Below w.heap.size w w2) (hf : Fit N) (hs : N.kids.sz ≤ 500) (v0 v1 v2 v3 v4 : Value) :
    Drawn w (.returned (.agg #[.int .i64 N.k, .string N.fr, .string N.tg, .int .i64 N.ix, u])) (((((w2.setCell ⟨w.heap.size, 0, none⟩ v0).setCell ⟨w.heap.size, 1, none⟩ v1).setCell ⟨w.heap.size, 2, none⟩ v2).setCell ⟨w.heap.size, 3, none⟩ v3).setCell ⟨w.heap.size, 4, none⟩ v4) := by
  have hne : ∀ x, x ≠ w.heap.size → (((((w2.setCell ⟨w.heap.size, 0, none⟩ v0).setCell ⟨w.heap.size, 1, none⟩ v1).setCell ⟨w.heap.size, 2, none⟩ v2).setCell ⟨w.heap.size, 3, none⟩ v3).setCell ⟨w.heap.size, 4, none⟩ v4).heap[x]? = w2.heap[x]? := fun x hx =>
    (Below.heap_setCell _ _ _ _ hx).trans ((Below.heap_setCell _ _ _ _ hx).trans ((Below.heap_setCell _ _ _ _ hx).trans ((Below.heap_setCell _ _ _ _ hx).trans (Below.heap_setCell _ _ _ _ hx))))
  exact ⟨N, u, bs, rfl, how.same (fun x hx => hne x (by have := hge x hx; omega)), fun x hx => Nat.le_of_lt (hge x hx), hnd, ((((hb.setCell (Nat.le_refl _) _).setCell (Nat.le_refl _) _).setCell (Nat.le_refl _) _).setCell (Nat.le_refl _) _).setCell (Nat.le_refl _) _, hf, hs⟩

set_option maxHeartbeats 2000000 in
set_option maxRecDepth 100000 in
theorem draw_calls (w : World) (sv : Value) (l : List Nat) (hs : SlG elY w sv l) : Calls Try.prog 15 #[sv] w (Drawn w) := by
  have HSV := hide hs
  clear hs
  go_enter Try.func15, Try.ntmps15
  go_upto_region 1 with fail
  have hx0 := Box5.now w (.int .i64 0) (.string ⟨#[]⟩) (.string ⟨#[]⟩) (.int .i64 0) (.slice none 0 0) ( /- t -/ 25)
  have hb0 := alloc_below w (.cells #[.int .i64 0, .string ⟨#[]⟩, .string ⟨#[]⟩, .int .i64 0, .slice none 0 0] ( /- t -/ 25))
  have hz0 : (w.alloc (.cells #[.int .i64 0, .string ⟨#[]⟩, .string ⟨#[]⟩, .int .i64 0, .slice none 0 0] ( /- t -/ 25))).heap.size = w.heap.size + 1 := by simp
  generalize w.alloc (.cells #[.int .i64 0, .string ⟨#[]⟩, .string ⟨#[]⟩, .int .i64 0, .slice none 0 0] ( /- t -/ 25)) = W at *
  have HX0 := hide hx0
  have HB0 := hide hb0
  have HZ0 := hide hz0
  clear hx0 hb0 hz0
  go_wp2_with fail
  refine (open_rd W sv l (HSV.out.still (Still.of_below HB0.out))).mono ?_
  rintro e w1 ⟨cv, l', rfl, hrd, hb, hz⟩
  have HX1 := hide (HX0.out.below hb)
  have HB1 := hide (HB0.out.trans (hb.mono (by have := HZ0.out; omega)))
  have HRD := hide hrd
  have HZ1 := hide hz
  have hrbz : w.heap.size < W.heap.size := by have := HZ0.out; omega
  clear hrd hb hz HX0 HB0 HZ0
  generalize W.heap.size = rb at *
  go_wp2_with fail
  refine (local_calls w1 rb cv l' 0 HRD.out (by omega)).mono ?_
  rintro e w2 ⟨N, u, bs, rfl, hq, hdr⟩
  obtain ⟨ua, uc, rfl⟩ := hdr.own.val
  obtain ⟨p', hp', hrd2⟩ := hdr.rd
  have HX2 := hide (HX1.out.same (hdr.only.block _ HX1.out.lt (by omega)))
  have HB2 := hide (HB1.out.trans (hdr.only.to_below (B := w.heap.size) (by omega) (by have := HX1.out.lt; omega)))
  have HDR := hide hdr
  have HRD2 := hide hrd2
  have hw2 : w.heap.size < w2.heap.size := HX2.out.lt
  clear hdr hrd2 HX1 HB1 HRD
  go_wp2_with fail
  refine (mut_calls w2 rb cv l' p' HRD2.out (by omega) N _ HDR.out.own.sl HDR.out.fit (by have := HDR.out.sz; omega)).mono ?_
  rintro e w3 ⟨N3, u3, bs3, rfl, hq3, hdr3⟩
  obtain ⟨va, vc, rfl⟩ := hdr3.own.val
  have HX3 := hide (HX2.out.same (hdr3.only.block _ HX2.out.lt (by omega)))
  have HB3 := hide (HB2.out.trans (hdr3.only.to_below (B := w.heap.size) (by omega) (by omega)))
  have HD3 := hide hdr3
  obtain ⟨x0, x1, x2, x3, x4⟩ := HX3.out.cells
  have fx := HX3.out.frozen
  have lx := HX3.out.lt
  clear hdr3 HX2 HB2
  go_wp2_with fail
  refine bodyPost_ret (v := .agg #[.int .i64 N3.k, .string N3.fr, .string N3.tg, .int .i64 N3.ix, .slice va N3.kids.len vc]) (by simp [results, Try.results15, go_sem, *]) rfl ?_
  exact drawn_set HD3.out.own (fun x hx => by have := HD3.out.ge x hx; omega) HD3.out.nd HB3.out HD3.out.fit (by have h1 := HD3.out.sz; have h2 := HDR.out.sz; omega) _ _ _ _ _
end Go.Proofs.Ytgcefippeokmcaa
