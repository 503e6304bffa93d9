/- Dla, Ex, Ew, Ec, Ez, Or, Eo -/
import Derived.Test.YtfppglfajbmapaaDoorQ40
import Derived.Test.YtfppglfajbmapaaDoorQ39
import Derived.Test.YtfppglfajbmapaaDoorDb
import Derived.Test.YtfppglfajbmapaaDoorDz
import Derived.Test.YtfppglfajbmapaaDoorOj
import Derived.Test.YtfppglfajbmapaaDoorFi
import Derived.Test.YtfppglfajbmapaaDoorQs
import Derived.Test.YtfppglfajbmapaaDoorQe
import Derived.Test.YtfppglfajbmapaaDoorIs
import Derived.Test.YtfppglfajbmapaaDoorLaw
import Derived.Test.YtfppglfajbmapaaDoorRg
import Derived.ChangeArms
import Derived.Test.YtfppglfajbmapaaDoorDa
/- ParseGlobal, l1Global and l1Draw of the model: a tree in memory of its own. -/
namespace Go.Proofs.YtfppglfajbmapaaDoor
open Go.RowKit

theorem wk_all (s : ByteArray) (hs : s.size ≤ 1048576) : ∀ d : Nat, d ≤ 40 → WkAt s d := by
  intro d
  induction d with
  | zero => intro _ w p hp; exact wk_zero s w p hp
  | succ d ih =>
    intro hd w p hp
    have := wk_succ s hs d (by omega) (ih (by omega)) (ms_calls s hs d (by omega) (ih (by omega))) w p hp
    rw [show ((d + 1 : Nat) : Int) = (d : Int) + 1 by omega]
    exact this
/-- Some tree in new memory, and a flag. -/
def PgP (s : ByteArray) (w : World) (e : Ending) (w' : World) : Prop :=
  ∃ (N : Nd) (u : Value) (bs : List Nat) (ok : Bool), e = .returned (.tuple #[.agg #[.int .i64 N.k, .string N.fr, .string N.tg, .int .i64 N.ix, u], .bool ok]) ∧ Ow w' u N.kids bs ∧ (∀ b, b ∈ bs → w.heap.size ≤ b) ∧ bs.Nodup ∧ Below w.heap.size w w' ∧ Fit N ∧ N.kids.sz ≤ s.size
theorem pg_set {s : ByteArray} {w w2 : World} {N : Nd} {u : Value} {bs : List Nat} {ok : Bool} (how : Ow w2 u N.kids bs) (hge : ∀ x, x ∈ bs → w.heap.size < x) (hnd : bs.Nodup) (hb : Below w.heap.size w w2) (hf : Fit N) (hs : N.kids.sz ≤ s.size) (v0 v1 v2 v3 v4 : Value) :
    PgP s w (.returned (.tuple #[.agg #[.int .i64 N.k, .string N.fr, .string N.tg, .int .i64 N.ix, u], .bool ok])) (((((w2.setCell ⟨w.heap.size, 0, none⟩ v0).setCell ⟨w.heap.size, 1, none⟩ v1).setCell ⟨w.heap.size, 2, none⟩ v2).setCell ⟨w.heap.size, 3, none⟩ v3).setCell ⟨w.heap.size, 4, none⟩ v4) := by
  have hne : ∀ x, x ≠ w.heap.size → (((((w2.setCell ⟨w.heap.size, 0, none⟩ v0).setCell ⟨w.heap.size, 1, none⟩ v1).setCell ⟨w.heap.size, 2, none⟩ v2).setCell ⟨w.heap.size, 3, none⟩ v3).setCell ⟨w.heap.size, 4, none⟩ v4).heap[x]? = w2.heap[x]? := fun x hx =>
    (Below.heap_setCell _ _ _ _ hx).trans ((Below.heap_setCell _ _ _ _ hx).trans ((Below.heap_setCell _ _ _ _ hx).trans ((Below.heap_setCell _ _ _ _ hx).trans (Below.heap_setCell _ _ _ _ hx))))
  exact ⟨N, u, bs, ok, rfl, how.same (fun x hx => hne x (by have := hge x hx; omega)), fun x hx => Nat.le_of_lt (hge x hx), hnd, ((((hb.setCell (Nat.le_refl _) _).setCell (Nat.le_refl _) _).setCell (Nat.le_refl _) _).setCell (Nat.le_refl _) _).setCell (Nat.le_refl _) _, hf, hs⟩

set_option maxHeartbeats 1600000 in
set_option maxRecDepth 100000 in
theorem parseG (w : World) (s : ByteArray) (hs : s.size ≤ 1048576) : Calls Tryd.prog 86 #[.string s] w (PgP s w) := by
  have HP := hide (wk_all s hs 40 (by omega))
  go_enter Tryd.func86, Tryd.ntmps86
  go_wp2_with fail
  have hx := Box5.now w (.int .i64 0) (.string ⟨#[]⟩) (.string ⟨#[]⟩) (.int .i64 0) (.slice none 0 0) ( /- t -/ 25)
  have hb1 := alloc_below w (.cells #[.int .i64 0, .string ⟨#[]⟩, .string ⟨#[]⟩, .int .i64 0, .slice none 0 0] ( /- t -/ 25))
  have hw1 : w.heap.size < (w.alloc (.cells #[.int .i64 0, .string ⟨#[]⟩, .string ⟨#[]⟩, .int .i64 0, .slice none 0 0] ( /- t -/ 25))).heap.size := by simp
  generalize w.alloc (.cells #[.int .i64 0, .string ⟨#[]⟩, .string ⟨#[]⟩, .int .i64 0, .slice none 0 0] ( /- t -/ 25)) = W at *
  refine (HP.out W 0 (Nat.zero_le _)).mono ?_
  rintro e w4 ⟨N, u, bs, nx, rfl, how, hge, hnd, hb4, hf, hn⟩
  obtain ⟨ua, uc, rfl⟩ := how.val
  have HX4 := hide ((hx.below hb4).below (alloc_below w4 (.cells #[.int .i64 N.k, .string N.fr, .string N.tg, .int .i64 N.ix, .slice ua N.kids.len uc] ( /- t -/ 25))))
  have HB4 := hide ((hb1.trans (hb4.mono hb1.size)).alloc (Nat.le_trans hb1.size hb4.size) (.cells #[.int .i64 N.k, .string N.fr, .string N.tg, .int .i64 N.ix, .slice ua N.kids.len uc] ( /- t -/ 25)))
  have HN4 := hide (Box5.now w4 (.int .i64 N.k) (.string N.fr) (.string N.tg) (.int .i64 N.ix) (.slice ua N.kids.len uc) ( /- t -/ 25))
  have HOW := hide (how.same (Same.of_below (alloc_below w4 (.cells #[.int .i64 N.k, .string N.fr, .string N.tg, .int .i64 N.ix, .slice ua N.kids.len uc] ( /- t -/ 25))) how.lt))
  have HGE : Hid (∀ x, x ∈ bs → w.heap.size < x) := hide (fun x hx => by have := hge x hx; omega)
  have HND := hide hnd
  have HF := hide hf
  have hsz : N.kids.sz ≤ s.size := by rcases hn with ⟨-, h⟩ | ⟨q, -, -, h1, h2⟩ <;> omega
  clear hx hb1 how hge hnd hb4 hf
  go_upto_region 2 with fail
  generalize w4.alloc (.cells #[.int .i64 N.k, .string N.fr, .string N.tg, .int .i64 N.ix, .slice ua N.kids.len uc] ( /- t -/ 25)) = W4 at *
  generalize w4.heap.size = b4 at *
  obtain ⟨x0, x1, x2, x3, x4⟩ := HX4.out.cells
  have fx := HX4.out.frozen
  have lx := HX4.out.lt
  obtain ⟨y0, y1, y2, y3, y4⟩ := HN4.out.cells
  have ly := HN4.out.lt
  by_cases hq : nx = (s.size : Int)
  case neg =>
    go_wp2_with fail
    refine bodyPost_ret (v := .tuple #[.agg #[.int .i64 0, .string ⟨#[]⟩, .string ⟨#[]⟩, .int .i64 0, .slice none 0 0], .bool false]) (by simp [results, Tryd.results86, go_sem, *]) rfl ?_
    exact pg_set (N := ⟨0, ⟨#[]⟩, ⟨#[]⟩, 0, .nil⟩) (bs := []) ⟨none, 0, rfl, Nat.le_refl _, Nat.zero_le _, Or.inl ⟨rfl, rfl⟩⟩ (fun x hx => absurd hx List.not_mem_nil) List.nodup_nil HB4.out ⟨Nat.zero_le _, Nat.zero_le _, show (Lit.int .i64 0).wf = true by decide, show (Lit.int .i64 0).wf = true by decide⟩ (Nat.zero_le _) _ _ _ _ _
  case pos =>
    subst hq
    have hs0 : 0 < s.size := by
      rcases hn with ⟨h, -⟩ | ⟨q, h, h1, -, -⟩ <;> omega
    have hne1 : ¬ s.toList = [] := fun h => by
      rw [ByteArray.toList_eq] at h
      have h3 : s.data.toList.length = s.size := Array.length_toList
      rw [h] at h3
      have h4 : ([] : List UInt8).length = 0 := rfl
      omega
    have he : s.toList.isEmpty = false := by
      cases h : s.toList with
      | nil => exact absurd h hne1
      | cons a b => rfl
    clear hn
    go_wp2_with fail
    refine (specFormat W4 N.k N.ix N.fr N.tg (.slice ua N.kids.len uc) N.kids HOW.out.sl (by omega)).mono ?_
    rintro e w2 ⟨rfl, hb⟩
    have HX2 := hide (HX4.out.below hb)
    have HN2 := hide (HN4.out.below hb)
    have HB2 := hide (HB4.out.trans (hb.mono HB4.out.size))
    have HOW2 := hide (HOW.out.same (Same.of_below hb HOW.out.lt))
    clear hb x0 x1 x2 x3 x4 fx lx y0 y1 y2 y3 y4 ly HX4 HN4 HB4 HOW
    obtain ⟨x0, x1, x2, x3, x4⟩ := HX2.out.cells
    have fx := HX2.out.frozen
    have lx := HX2.out.lt
    obtain ⟨y0, y1, y2, y3, y4⟩ := HN2.out.cells
    have ly := HN2.out.lt
    by_cases heq : textN N.k N.fr N.tg N.ix N.kids = s
    · rw [heq]
      clear heq
      go_wp2_with fail
      refine bodyPost_ret (v := .tuple #[.agg #[.int .i64 N.k, .string N.fr, .string N.tg, .int .i64 N.ix, .slice ua N.kids.len uc], .bool true]) (by simp [results, Tryd.results86, go_sem, *]) rfl ?_
      exact pg_set HOW2.out HGE.out HND.out HB2.out HF.out hsz _ _ _ _ _
    · have hnb : ((textN N.k N.fr N.tg N.ix N.kids).toList == s.toList) = false := beq_eq_false_iff_ne.2 (fun h => heq (by
        rw [ByteArray.toList_eq, ByteArray.toList_eq] at h
        exact ByteArray.ext (Array.toList_inj.1 h)))
      generalize textN N.k N.fr N.tg N.ix N.kids = tt at *
      clear heq
      go_wp2_with fail
      refine bodyPost_ret (v := .tuple #[.agg #[.int .i64 0, .string ⟨#[]⟩, .string ⟨#[]⟩, .int .i64 0, .slice none 0 0], .bool false]) (by simp [results, Tryd.results86, go_sem, *]) rfl ?_
      exact pg_set (N := ⟨0, ⟨#[]⟩, ⟨#[]⟩, 0, .nil⟩) (bs := []) ⟨none, 0, rfl, Nat.le_refl _, Nat.zero_le _, Or.inl ⟨rfl, rfl⟩⟩ (fun x hx => absurd hx List.not_mem_nil) List.nodup_nil HB2.out ⟨Nat.zero_le _, Nat.zero_le _, show (Lit.int .i64 0).wf = true by decide, show (Lit.int .i64 0).wf = true by decide⟩ (Nat.zero_le _) _ _ _ _ _

set_option maxHeartbeats 800000 in
theorem exa_calls (w : World) (v : Nat) (hv : v < 10) : Calls Tryd.prog 87 #[.int .i64 (v : Int)] w fun e w' => (∃ s : ByteArray, s.size ≤ 100 ∧ e = .returned (.string s)) ∧ w' = w := by
  have h : v = 0 ∨ v = 1 ∨ v = 2 ∨ v = 3 ∨ v = 4 ∨ v = 5 ∨ v = 6 ∨ v = 7 ∨ v = 8 ∨ v = 9 := by omega
  rcases h with rfl | rfl | rfl | rfl | rfl | rfl | rfl | rfl | rfl | rfl
  all_goals
    (go_enter Tryd.func87, Tryd.ntmps87
     go_wp2_with fail
     go_ret
     exact ⟨⟨_, by decide, rfl⟩, rfl⟩)

theorem sl4i (w : World) (s0 s1 s2 s3 : Int) (t : TypeId) :
    SlG elI64 (w.alloc (.cells #[.int .i64 s0, .int .i64 s1, .int .i64 s2, .int .i64 s3] t)) (.slice (some ⟨w.heap.size, 0, none⟩) 4 4) [s0, s1, s2, s3] := by
  have hh := heap_new w (.cells #[.int .i64 s0, .int .i64 s1, .int .i64 s2, .int .i64 s3] t)
  refine ⟨_, 4, rfl, Nat.le_refl _, by unfold maxLen; omega, Or.inr ⟨w.heap.size, 0, rfl, ?_, ?_, ?_, ?_, trivial⟩⟩
  all_goals (show World.cell? _ _ = _; rw [cell_of_heap hh]; rfl)
theorem size_all {fr : ByteArray} {L : List ByteArray} (n : Nat) (h : fr ∈ L) (hL : L.all (fun s => decide (s.size ≤ n)) = true) : fr.size ≤ n := of_decide_eq_true (List.all_eq_true.1 hL fr h)
theorem qs_le4 {D : Nat} (h : D ≤ 4) : qs D ≤ 2304 ∧ zs D ≤ 120 := by
  have : D = 0 ∨ D = 1 ∨ D = 2 ∨ D = 3 ∨ D = 4 := by omega
  rcases this with rfl | rfl | rfl | rfl | rfl <;> decide

set_option maxHeartbeats 2000000 in
set_option maxRecDepth 100000 in
theorem local_calls (w : World) (rb : Nat) (cv : Value) (l : List Nat) (p : Nat) (h : Rd w rb cv l p) (hp : p + 3000 ≤ 1000000) :
    Calls Tryd.prog 40 #[.pointer (some ⟨rb, 0, none⟩)] w (DrP (fun _ => True) w rb cv l p 2310 400) := by
  have hrb := h.lt
  have HS := hide (St.new h ( /- t -/ 25))
  clear h
  go_enter Tryd.func40, Tryd.ntmps40
  go_upto_region 1 with fail
  generalize w.alloc (.cells #[.int .i64 0, .string ⟨#[]⟩, .string ⟨#[]⟩, .int .i64 0, .slice none 0 0] ( /- t -/ 25)) = W at *
  go_wp2_with fail
  refine (pick_calls _ rb cv l _ HS.out.rd (by omega) 2 (by omega)).mono ?_
  rintro e w1 ⟨v, rfl, hv, hask⟩
  have H1 := hide (HS.out.ask hask)
  clear hask HS
  by_cases hv0 : v = 0
  case pos =>
    subst hv0
    go_wp2_with fail
    refine (pick_calls _ rb cv l _ H1.out.rd (by omega) 10 (by omega)).mono ?_
    rintro e w2 ⟨vx, rfl, hvx, hask⟩
    have H2 := hide (H1.out.ask hask)
    clear hask
    go_wp2_with fail
    refine (exa_calls w2 vx (by omega)).mono ?_
    rintro e w2' ⟨⟨s, hsz, rfl⟩, hw2⟩
    subst hw2
    go_wp2_with fail
    refine (parseG _ s (by omega)).mono ?_
    rintro e w3 ⟨N, u, bs, ok, rfl, how, hge, hnd, hb, hf, hns⟩
    have HO := hide (And.intro hf hns)
    clear hf hns
    obtain ⟨ua, uc, rfl⟩ := how.val
    have H3 := hide (H2.out.below hb)
    have HOW := hide how
    have HGE : Hid (∀ x, x ∈ bs → w.heap.size < x) := hide (fun x hx => by have h1 := hge x hx; have h2 := H2.out.box.lt; omega)
    have HND := hide hnd
    obtain ⟨x0, x1, x2, x3, x4⟩ := H3.out.box.cells
    have fx := H3.out.box.frozen
    have lx := H3.out.box.lt
    clear how hge hnd hb
    go_wp2_with fail
    try rw [set5_alloc _ _ _ _ _ _ _ _ lx]
    have H4 := hide (H3.out.alloc (.cells #[.int .i64 N.k, .string N.fr, .string N.tg, .int .i64 N.ix, .slice ua N.kids.len uc] ( /- t -/ 25)))
    have HOW4 := hide (HOW.out.same (Same.of_below (alloc_below w3 (.cells #[.int .i64 N.k, .string N.fr, .string N.tg, .int .i64 N.ix, .slice ua N.kids.len uc] ( /- t -/ 25))) HOW.out.lt))
    refine bodyPost_ret (v := .agg #[.int .i64 N.k, .string N.fr, .string N.tg, .int .i64 N.ix, .slice ua N.kids.len uc]) (by simp [results, Tryd.results40, go_sem, *]) rfl ?_
    exact ⟨⟨N.k, N.fr, N.tg, N.ix, N.kids⟩, _, bs, rfl, trivial, dr_fin (N := ⟨N.k, N.fr, N.tg, N.ix, N.kids⟩) H4.out.start H4.out.only H4.out.rd (by omega) HOW4.out w.heap.size (Nat.le_refl _) HGE.out HND.out HO.out.1 (Nat.le_trans HO.out.2 (by omega)) _ _ _ _ _⟩
  case neg =>
    have hv1 : ((v : Int) == 0) = false := beq_eq_false_iff_ne.2 (by omega)
    have hv2 : ¬ (v : Int) = 0 := by omega
    go_wp2_with fail
    have HA0 := hide (H1.out.alloc (.cells #[.int .i64 3, .int .i64 2, .int .i64 4, .int .i64 1] ( /- t -/ 3)))
    refine (num_calls _ rb cv l _ HA0.out.rd (by omega) [3, 2, 4, 1] _ (sl4i w1 _ _ _ _ ( /- t -/ 3)) (by decide) (by decide) (new_far H1.out.rd.lt)).mono ?_
    rintro e w2 ⟨nv, hnv, rfl, hask⟩
    have H2 := hide (HA0.out.ask hask)
    have hD : ∃ D : Nat, D ≤ 4 ∧ nv = (D : Int) := by
      simp only [List.mem_cons, List.not_mem_nil, or_false] at hnv
      exact ⟨nv.toNat, by omega, by omega⟩
    obtain ⟨D, hD4, rfl⟩ := hD
    obtain ⟨hq, hz⟩ := qs_le4 hD4
    clear hask HA0 hnv
    go_wp2_with fail
    refine (rand_all D (by omega) w2 rb cv l _ H2.out.rd (by omega) 0 0 (by omega) (by omega) (by omega)).mono ?_
    rintro e w3 ⟨N, un, bs, rfl, hqn, hdr⟩
    obtain ⟨ua, uc, rfl⟩ := hdr.own.val
    obtain ⟨p', hp', hrd⟩ := hdr.rd
    have H3 := hide (H2.out.on hdr.only hrd)
    have HDR := hide hdr
    obtain ⟨x0, x1, x2, x3, x4⟩ := H3.out.box.cells
    have fx := H3.out.box.frozen
    have lx := H3.out.box.lt
    clear hdr hrd
    go_wp2_with fail
    refine bodyPost_ret (v := .agg #[.int .i64 N.k, .string N.fr, .string N.tg, .int .i64 N.ix, .slice ua N.kids.len uc]) (by simp [results, Tryd.results40, go_sem, *]) rfl ?_
    exact ⟨N, _, bs, rfl, trivial, dr_fin H3.out.start H3.out.only H3.out.rd (by omega) HDR.out.own w.heap.size (Nat.le_refl _) (fun x hx => by have h1 := HDR.out.ge x hx; have h2 := H2.out.box.lt; omega) HDR.out.nd HDR.out.fit (Nat.le_trans HDR.out.sz (by omega)) _ _ _ _ _⟩

/-- A drawn tree: memory of its own, of moderate size. -/
def Drawn (w : World) (e : Ending) (w' : World) : Prop :=
  ∃ (N : Nd) (u : Value) (bs : List Nat), e = .returned (.agg #[.int .i64 N.k, .string N.fr, .string N.tg, .int .i64 N.ix, u]) ∧ Ow w' u N.kids bs ∧ (∀ b, b ∈ bs → w.heap.size ≤ b) ∧ bs.Nodup ∧ Below w.heap.size w w' ∧ Fit N ∧ N.kids.sz ≤ 500

theorem drawn_set {w w2 : World} {N : Nd} {u : Value} {bs : List Nat} (how : Ow w2 u N.kids bs) (hge : ∀ x, x ∈ bs → w.heap.size < x) (hnd : bs.Nodup) (hb : Below w.heap.size w w2) (hf : Fit N) (hs : N.kids.sz ≤ 500) (v0 v1 v2 v3 v4 : Value) :
    Drawn w (.returned (.agg #[.int .i64 N.k, .string N.fr, .string N.tg, .int .i64 N.ix, u])) (((((w2.setCell ⟨w.heap.size, 0, none⟩ v0).setCell ⟨w.heap.size, 1, none⟩ v1).setCell ⟨w.heap.size, 2, none⟩ v2).setCell ⟨w.heap.size, 3, none⟩ v3).setCell ⟨w.heap.size, 4, none⟩ v4) := by
  have hne : ∀ x, x ≠ w.heap.size → (((((w2.setCell ⟨w.heap.size, 0, none⟩ v0).setCell ⟨w.heap.size, 1, none⟩ v1).setCell ⟨w.heap.size, 2, none⟩ v2).setCell ⟨w.heap.size, 3, none⟩ v3).setCell ⟨w.heap.size, 4, none⟩ v4).heap[x]? = w2.heap[x]? := fun x hx =>
    (Below.heap_setCell _ _ _ _ hx).trans ((Below.heap_setCell _ _ _ _ hx).trans ((Below.heap_setCell _ _ _ _ hx).trans ((Below.heap_setCell _ _ _ _ hx).trans (Below.heap_setCell _ _ _ _ hx))))
  exact ⟨N, u, bs, rfl, how.same (fun x hx => hne x (by have := hge x hx; omega)), fun x hx => Nat.le_of_lt (hge x hx), hnd, ((((hb.setCell (Nat.le_refl _) _).setCell (Nat.le_refl _) _).setCell (Nat.le_refl _) _).setCell (Nat.le_refl _) _).setCell (Nat.le_refl _) _, hf, hs⟩

end Go.Proofs.YtfppglfajbmapaaDoor

/- DrawGlobalEqual of the model: two trees, each in memory of its own. -/
namespace Go.Proofs.YtfppglfajbmapaaDoor
open Go.RowKit

theorem set5_other {w : World} {b x : Nat} (hx : x ≠ b) (v0 v1 v2 v3 v4 : Value) :
    (((((w.setCell ⟨b, 0, none⟩ v0).setCell ⟨b, 1, none⟩ v1).setCell ⟨b, 2, none⟩ v2).setCell ⟨b, 3, none⟩ v3).setCell ⟨b, 4, none⟩ v4).heap[x]? = w.heap[x]? :=
  (Below.heap_setCell _ _ _ _ hx).trans ((Below.heap_setCell _ _ _ _ hx).trans ((Below.heap_setCell _ _ _ _ hx).trans ((Below.heap_setCell _ _ _ _ hx).trans (Below.heap_setCell _ _ _ _ hx))))
theorem set5_below {w : World} {b B : Nat} (hb : B ≤ b) (v0 v1 v2 v3 v4 : Value) :
    Below B w (((((w.setCell ⟨b, 0, none⟩ v0).setCell ⟨b, 1, none⟩ v1).setCell ⟨b, 2, none⟩ v2).setCell ⟨b, 3, none⟩ v3).setCell ⟨b, 4, none⟩ v4) :=
  (((((Below.refl B w).setCell (p := ⟨b, 0, none⟩) hb v0).setCell (p := ⟨b, 1, none⟩) hb v1).setCell (p := ⟨b, 2, none⟩) hb v2).setCell (p := ⟨b, 3, none⟩) hb v3).setCell (p := ⟨b, 4, none⟩) hb v4
/-- The two results' boxes, the first tree's box, both trees, the source. -/
structure Two (w : World) (b5 : Nat) (N M : Nd) (u v : Value) (bs cs : List Nat) (p0 p1 p2 p3 p4 q0 q1 q2 q3 q4 : Value) (W : World) : Prop where
  ba : Box5 W w.heap.size p0 p1 p2 p3 p4
  bb : Box5 W (w.heap.size + 1) q0 q1 q2 q3 q4
  bc : Box5 W b5 (.int .i64 N.k) (.string N.fr) (.string N.tg) (.int .i64 N.ix) u
  ou : Ow W u N.kids bs
  ov : Ow W v M.kids cs
  gu : ∀ x, x ∈ bs → w.heap.size + 1 < x
  gv : ∀ x, x ∈ cs → w.heap.size + 1 < x
  b5g : w.heap.size + 1 < b5
  bel : Below w.heap.size w W

/-- Where the drawing stands before the second tree. -/
structure Fst1 (w : World) (b5 rb : Nat) (N : Nd) (u : Value) (bs : List Nat) (W : World) : Prop where
  ba : Box5 W w.heap.size (.int .i64 0) (.string ⟨#[]⟩) (.string ⟨#[]⟩) (.int .i64 0) (.slice none 0 0)
  bb : Box5 W (w.heap.size + 1) (.int .i64 0) (.string ⟨#[]⟩) (.string ⟨#[]⟩) (.int .i64 0) (.slice none 0 0)
  bc : Box5 W b5 (.int .i64 N.k) (.string N.fr) (.string N.tg) (.int .i64 N.ix) u
  ou : Ow W u N.kids bs
  gu : ∀ x, x ∈ bs → w.heap.size + 1 < x
  ru : ∀ x, x ∈ bs → x ≠ rb
  g5 : w.heap.size + 1 < b5
  r5 : b5 ≠ rb
  gr : w.heap.size + 1 < rb
  bel : Below w.heap.size w W
theorem Fst1.only {w : World} {b5 rb : Nat} {N : Nd} {u : Value} {bs : List Nat} {W W' : World} (h : Fst1 w b5 rb N u bs W) (ho : Only rb W W') : Fst1 w b5 rb N u bs W' := by
  have hg := h.gr
  have hs := h.bel.size
  exact ⟨h.ba.same (ho.block _ h.ba.lt (by omega)), h.bb.same (ho.block _ h.bb.lt (by omega)), h.bc.same (ho.block _ h.bc.lt h.r5), h.ou.same (fun x hx => ho.block x (h.ou.lt x hx) (h.ru x hx)), h.gu, h.ru, h.g5, h.r5, h.gr, h.bel.trans (ho.to_below (by omega) hs)⟩
theorem Fst1.drew {w : World} {b5 rb : Nat} {N : Nd} {u : Value} {bs : List Nat} {W : World} (h : Fst1 w b5 rb N u bs W) : Fst1 w b5 rb N u bs W.drew :=
  ⟨h.ba.drew, h.bb.drew, h.bc.drew, h.ou.same (fun _ _ => rfl), h.gu, h.ru, h.g5, h.r5, h.gr, h.bel.drew⟩
theorem Fst1.two {w : World} {b5 rb : Nat} {N M : Nd} {u v : Value} {bs cs : List Nat} {W : World} (h : Fst1 w b5 rb N u bs W) (hv : Ow W v M.kids cs) (hg : ∀ x, x ∈ cs → w.heap.size + 1 < x) : Two w b5 N M u v bs cs (.int .i64 0) (.string ⟨#[]⟩) (.string ⟨#[]⟩) (.int .i64 0) (.slice none 0 0) (.int .i64 0) (.string ⟨#[]⟩) (.string ⟨#[]⟩) (.int .i64 0) (.slice none 0 0) W :=
  ⟨h.ba, h.bb, h.bc, h.ou, hv, h.gu, hg, h.g5, h.bel⟩
theorem Two.setA {w : World} {b5 : Nat} {N M : Nd} {u v : Value} {bs cs : List Nat} {p0 p1 p2 p3 p4 q0 q1 q2 q3 q4 : Value} {W : World} (h : Two w b5 N M u v bs cs p0 p1 p2 p3 p4 q0 q1 q2 q3 q4 W) (n0 n1 n2 n3 n4 : Value) :
    Two w b5 N M u v bs cs n0 n1 n2 n3 n4 q0 q1 q2 q3 q4 (((((W.setCell ⟨w.heap.size, 0, none⟩ n0).setCell ⟨w.heap.size, 1, none⟩ n1).setCell ⟨w.heap.size, 2, none⟩ n2).setCell ⟨w.heap.size, 3, none⟩ n3).setCell ⟨w.heap.size, 4, none⟩ n4) := by
  have h5 := h.b5g
  exact ⟨h.ba.setAll n0 n1 n2 n3 n4, h.bb.same (set5_other (by omega) _ _ _ _ _), h.bc.same (set5_other (by omega) _ _ _ _ _), h.ou.same (fun x hx => set5_other (by have := h.gu x hx; omega) _ _ _ _ _), h.ov.same (fun x hx => set5_other (by have := h.gv x hx; omega) _ _ _ _ _), h.gu, h.gv, h.b5g, h.bel.trans (set5_below (Nat.le_refl _) _ _ _ _ _)⟩
theorem Two.setB {w : World} {b5 : Nat} {N M : Nd} {u v : Value} {bs cs : List Nat} {p0 p1 p2 p3 p4 q0 q1 q2 q3 q4 : Value} {W : World} (h : Two w b5 N M u v bs cs p0 p1 p2 p3 p4 q0 q1 q2 q3 q4 W) (n0 n1 n2 n3 n4 : Value) :
    Two w b5 N M u v bs cs p0 p1 p2 p3 p4 n0 n1 n2 n3 n4 (((((W.setCell ⟨w.heap.size + 1, 0, none⟩ n0).setCell ⟨w.heap.size + 1, 1, none⟩ n1).setCell ⟨w.heap.size + 1, 2, none⟩ n2).setCell ⟨w.heap.size + 1, 3, none⟩ n3).setCell ⟨w.heap.size + 1, 4, none⟩ n4) := by
  have h5 := h.b5g
  exact ⟨h.ba.same (set5_other (by omega) _ _ _ _ _), h.bb.setAll n0 n1 n2 n3 n4, h.bc.same (set5_other (by omega) _ _ _ _ _), h.ou.same (fun x hx => set5_other (by have := h.gu x hx; omega) _ _ _ _ _), h.ov.same (fun x hx => set5_other (by have := h.gv x hx; omega) _ _ _ _ _), h.gu, h.gv, h.b5g, h.bel.trans (set5_below (by omega) _ _ _ _ _)⟩

/-- Two drawn trees. -/
def DrawnP (w : World) (e : Ending) (w' : World) : Prop :=
  ∃ (N M : Nd) (u v : Value) (bs cs : List Nat), e = .returned (.tuple #[.agg #[.int .i64 N.k, .string N.fr, .string N.tg, .int .i64 N.ix, u], .agg #[.int .i64 M.k, .string M.fr, .string M.tg, .int .i64 M.ix, v]]) ∧
    Ow w' u N.kids bs ∧ Ow w' v M.kids cs ∧ Below w.heap.size w w' ∧ Fit N ∧ Fit M ∧ N.kids.sz ≤ 500 ∧ M.kids.sz ≤ 500

set_option maxHeartbeats 4000000 in
set_option maxRecDepth 100000 in
theorem drawG_calls (w : World) (sv : Value) (l : List Nat) (hs : SlG elY w sv l) : Calls Tryd.prog 8 #[sv] w (DrawnP w) := by
  have HSV := hide hs
  clear hs
  go_enter Tryd.func8, Tryd.ntmps8
  go_upto_region 1 with fail
  have hz9 : (w.alloc (.cells #[.int .i64 0, .string ⟨#[]⟩, .string ⟨#[]⟩, .int .i64 0, .slice none 0 0] ( /- t -/ 25))).heap.size = w.heap.size + 1 := by simp
  have hbx := (alloc_below w (.cells #[.int .i64 0, .string ⟨#[]⟩, .string ⟨#[]⟩, .int .i64 0, .slice none 0 0] ( /- t -/ 25))).alloc (by simp) (.cells #[.int .i64 0, .string ⟨#[]⟩, .string ⟨#[]⟩, .int .i64 0, .slice none 0 0] ( /- t -/ 25))
  have hba := (Box5.now w (.int .i64 0) (.string ⟨#[]⟩) (.string ⟨#[]⟩) (.int .i64 0) (.slice none 0 0) ( /- t -/ 25)).below (alloc_below (w.alloc (.cells #[.int .i64 0, .string ⟨#[]⟩, .string ⟨#[]⟩, .int .i64 0, .slice none 0 0] ( /- t -/ 25))) (.cells #[.int .i64 0, .string ⟨#[]⟩, .string ⟨#[]⟩, .int .i64 0, .slice none 0 0] ( /- t -/ 25)))
  have hbb := Box5.now (w.alloc (.cells #[.int .i64 0, .string ⟨#[]⟩, .string ⟨#[]⟩, .int .i64 0, .slice none 0 0] ( /- t -/ 25))) (.int .i64 0) (.string ⟨#[]⟩) (.string ⟨#[]⟩) (.int .i64 0) (.slice none 0 0) ( /- t -/ 25)
  rw [hz9] at hbb
  have hzz : ((w.alloc (.cells #[.int .i64 0, .string ⟨#[]⟩, .string ⟨#[]⟩, .int .i64 0, .slice none 0 0] ( /- t -/ 25))).alloc (.cells #[.int .i64 0, .string ⟨#[]⟩, .string ⟨#[]⟩, .int .i64 0, .slice none 0 0] ( /- t -/ 25))).heap.size = w.heap.size + 2 := by simp
  generalize (w.alloc (.cells #[.int .i64 0, .string ⟨#[]⟩, .string ⟨#[]⟩, .int .i64 0, .slice none 0 0] ( /- t -/ 25))).alloc (.cells #[.int .i64 0, .string ⟨#[]⟩, .string ⟨#[]⟩, .int .i64 0, .slice none 0 0] ( /- t -/ 25)) = W at *
  have HA0 := hide hba
  have HB0 := hide hbb
  have HL0 := hide hbx
  have HZ0 := hide hzz
  clear hz9 hbx hba hbb hzz
  go_wp2_with fail
  refine (open_rd W sv l (HSV.out.still (Still.of_below HL0.out))).mono ?_
  rintro e w1 ⟨cv, l', rfl, hrd, hb, hz⟩
  have HA1 := hide (HA0.out.below hb)
  have HB1 := hide (HB0.out.below hb)
  have HL1 := hide (HL0.out.trans (hb.mono (by have := HZ0.out; omega)))
  have HRD := hide hrd
  have HRB : Hid (W.heap.size = w.heap.size + 2) := HZ0
  clear hrd hb hz HA0 HB0 HL0 HZ0
  generalize W.heap.size = rb at *
  go_wp2_with fail
  refine (local_calls w1 rb cv l' 0 HRD.out (by omega)).mono ?_
  rintro e w2 ⟨N, u, bs, rfl, -, dr⟩
  obtain ⟨ua, uc, rfl⟩ := dr.own.val
  obtain ⟨p, hp, hr⟩ := dr.rd
  have hbo := alloc_below w2 (.cells #[.int .i64 N.k, .string N.fr, .string N.tg, .int .i64 N.ix, .slice ua N.kids.len uc] ( /- t -/ 25))
  have hrb := HRB.out
  have h1lt := HRD.out.lt
  have h2sz := dr.only.size
  have HO1 : Hid (Fst1 w w2.heap.size rb N (.slice ua N.kids.len uc) bs (w2.alloc (.cells #[.int .i64 N.k, .string N.fr, .string N.tg, .int .i64 N.ix, .slice ua N.kids.len uc] ( /- t -/ 25)))) := hide
    ⟨(HA1.out.same (dr.only.block _ HA1.out.lt (by omega))).below hbo, (HB1.out.same (dr.only.block _ HB1.out.lt (by omega))).below hbo, Box5.now w2 _ _ _ _ _ ( /- t -/ 25), dr.own.same (Same.of_below hbo dr.own.lt),
      fun x hx => by have := dr.ge x hx; omega, fun x hx => by have := dr.ge x hx; omega, by omega, by omega, by omega,
      (HL1.out.trans (dr.only.to_below (by omega) HL1.out.size)).alloc (by omega) _⟩
  have HR1 := hide (hr.below hbo)
  have HP1 : Hid (p ≤ 2310) := hide (by omega)
  have HFN := hide (And.intro dr.fit dr.sz)
  clear dr hr hp hbo h1lt h2sz hrb HA1 HB1 HL1 HRD
  go_upto_region 3 with fail
  generalize w2.alloc (.cells #[.int .i64 N.k, .string N.fr, .string N.tg, .int .i64 N.ix, .slice ua N.kids.len uc] ( /- t -/ 25)) = W2 at *
  generalize w2.heap.size = b5 at *
  go_wp2_with fail
  refine (pick_calls W2 rb cv l' p HR1.out (by have := HP1.out; omega) 2 (by omega)).mono ?_
  rintro e w3 ⟨v, rfl, -, ask⟩
  have HO2 := hide (HO1.out.only ask.only)
  have HR2 := hide ask.rd
  clear ask HO1 HR1
  by_cases hv : v = 0
  · subst hv
    go_wp2_with fail
    have HO3 := hide HO2.out.drew
    refine wp_region_T (fun w' => Box5 w' b5 (.int .i64 N.k) (.string N.fr) (.string N.tg) (.int .i64 N.ix) (.slice ua N.kids.len uc)) 4 (by kernel_rfl) HO3.out.bc (fun hHeld => ?_)
    refine wpAnyT_take (L := 4) (i := 0) (v := ?v0a) rfl (by kernel_rfl) (by kernel_rfl) (by kernel_rfl) (by kernel_rfl) (fun _ _ _ h => h) hHeld (Or.inl ⟨by rfl, ?hy0a⟩) ?rest0a
    case hy0a => ((intro w' hw'); (obtain ⟨z0, z1, z2, z3, z4⟩ := hw'.cells); (go_simp); (try with_reducible rfl))
    (try simp only [Act.put]); (try simp only [List.setIfInBounds_toArray]); (try simp only [List.set_cons_zero]); (try simp only [List.set_cons_succ])
    refine wpAnyT_take (L := 4) (i := 1) (v := ?v1a) rfl (by kernel_rfl) (by kernel_rfl) (by kernel_rfl) (by kernel_rfl) (fun _ _ _ h => h) hHeld (Or.inl ⟨by rfl, ?hy1a⟩) ?rest1a
    case hy1a => ((intro w' hw'); (obtain ⟨z0, z1, z2, z3, z4⟩ := hw'.cells); (go_simp); (try with_reducible rfl))
    (try simp only [Act.put]); (try simp only [List.setIfInBounds_toArray]); (try simp only [List.set_cons_zero]); (try simp only [List.set_cons_succ])
    refine wpAnyT_one (L := 4) (i := 2) (by kernel_rfl) rfl (fun K hK => ?_)
    go_simp
    go_at_call 40
    refine (local_calls _ rb cv l' (p + 1) HR2.out.drew (by have := HP1.out; omega)).mono ?_
    rintro e U ⟨M, vv, cs, rfl, -, dr⟩
    obtain ⟨va, vc, rfl⟩ := dr.own.val
    have HO4 := hide (HO3.out.only dr.only)
    have HQ := hide (HO4.out.two (M := M) dr.own (fun x hx => Nat.lt_of_lt_of_le HO3.out.bb.lt (dr.ge x hx)))
    have HF : Hid (Fit N ∧ Fit M ∧ N.kids.sz ≤ 500 ∧ M.kids.sz ≤ 500) := hide ⟨HFN.out.1, dr.fit, by have := HFN.out.2; omega, by have := dr.sz; omega⟩
    refine hK.out _ _ (fun _ => HO4.out.bc) ?_
    clear hK K dr HO3 HO4 HO2
    (try simp only [Act.put]); (try simp only [List.setIfInBounds_toArray]); (try simp only [List.set_cons_zero]); (try simp only [List.set_cons_succ])
    obtain ⟨x0, x1, x2, x3, x4⟩ := HQ.out.ba.cells
    have fx := HQ.out.ba.frozen
    have lx := HQ.out.ba.lt
    obtain ⟨y0, y1, y2, y3, y4⟩ := HQ.out.bb.cells
    have fy := HQ.out.bb.frozen
    have ly := HQ.out.bb.lt
    refine wpAnyT_one (L := 4) (i := 3) (by kernel_rfl) rfl (fun K hK => ?_)
    go_simp
    have HQ2 := hide (HQ.out.setA (.int .i64 N.k) (.string N.fr) (.string N.tg) (.int .i64 N.ix) (.slice ua N.kids.len uc))
    refine hK.out _ _ (fun _ => HQ2.out.bc) ?_
    clear hK K x0 x1 x2 x3 x4 fx lx y0 y1 y2 y3 y4 fy ly HQ
    have HQ := HQ2
    clear HQ2
    generalize (((((U.setCell ⟨w.heap.size, 0, none⟩ (.int .i64 N.k)).setCell ⟨w.heap.size, 1, none⟩ (.string N.fr)).setCell ⟨w.heap.size, 2, none⟩ (.string N.tg)).setCell ⟨w.heap.size, 3, none⟩ (.int .i64 N.ix)).setCell ⟨w.heap.size, 4, none⟩ (.slice ua N.kids.len uc)) = U2 at *
    (try simp only [Act.put]); (try simp only [List.setIfInBounds_toArray]); (try simp only [List.set_cons_zero]); (try simp only [List.set_cons_succ])
    obtain ⟨x0, x1, x2, x3, x4⟩ := HQ.out.ba.cells
    have fx := HQ.out.ba.frozen
    have lx := HQ.out.ba.lt
    obtain ⟨y0, y1, y2, y3, y4⟩ := HQ.out.bb.cells
    have fy := HQ.out.bb.frozen
    have ly := HQ.out.bb.lt
    refine wpAnyT_one (L := 4) (i := 4) (by kernel_rfl) rfl (fun K hK => ?_)
    go_simp
    have HQ2 := hide (HQ.out.setB (.int .i64 M.k) (.string M.fr) (.string M.tg) (.int .i64 M.ix) (.slice va M.kids.len vc))
    refine hK.out _ _ (fun _ => HQ2.out.bc) ?_
    clear hK K x0 x1 x2 x3 x4 fx lx y0 y1 y2 y3 y4 fy ly HQ
    have HQ := HQ2
    clear HQ2
    generalize (((((U2.setCell ⟨w.heap.size + 1, 0, none⟩ (.int .i64 M.k)).setCell ⟨w.heap.size + 1, 1, none⟩ (.string M.fr)).setCell ⟨w.heap.size + 1, 2, none⟩ (.string M.tg)).setCell ⟨w.heap.size + 1, 3, none⟩ (.int .i64 M.ix)).setCell ⟨w.heap.size + 1, 4, none⟩ (.slice va M.kids.len vc)) = U3 at *
    refine wpAnyT_done (by kernel_rfl) ?_ _
    obtain ⟨x0, x1, x2, x3, x4⟩ := HQ.out.ba.cells
    have fx := HQ.out.ba.frozen
    have lx := HQ.out.ba.lt
    obtain ⟨y0, y1, y2, y3, y4⟩ := HQ.out.bb.cells
    have fy := HQ.out.bb.frozen
    have ly := HQ.out.bb.lt
    go_wp2_with fail
    refine bodyPost_ret (v := .tuple #[.agg #[.int .i64 N.k, .string N.fr, .string N.tg, .int .i64 N.ix, .slice ua N.kids.len uc], .agg #[.int .i64 M.k, .string M.fr, .string M.tg, .int .i64 M.ix, .slice va M.kids.len vc]]) (by simp [results, Tryd.results8, go_sem, *]) rfl ?_
    exact ⟨N, M, _, _, bs, cs, rfl, HQ.out.ou, HQ.out.ov, HQ.out.bel, HF.out.1, HF.out.2.1, HF.out.2.2.1, HF.out.2.2.2⟩
  · have hv2 : ((v : Int) == 0) = false := beq_eq_false_iff_ne.2 (by omega)
    have hv3 : ¬ ((v : Int) = 0) := by omega
    go_wp2_with fail
    have HO3 := hide HO2.out.drew
    have HR3 : Hid (Rd w3.drew rb cv l' (p + 1)) := hide HR2.out.drew
    have HP3 : Hid (p + 1 ≤ 2327) := hide (by have := HP1.out; omega)
    have HSZ3 : Hid (N.kids.sz ≤ 403) := hide (by have := HFN.out.2; omega)
    refine wp_region_T (fun w' => Box5 w' b5 (.int .i64 N.k) (.string N.fr) (.string N.tg) (.int .i64 N.ix) (.slice ua N.kids.len uc)) 9 (by kernel_rfl) HO3.out.bc (fun hHeld => ?_)
    refine wpAnyT_take (L := 9) (i := 0) (v := ?v0b) rfl (by kernel_rfl) (by kernel_rfl) (by kernel_rfl) (by kernel_rfl) (fun _ _ _ h => h) hHeld (Or.inl ⟨by rfl, ?hy0b⟩) ?rest0b
    case hy0b => ((intro w' hw'); (obtain ⟨z0, z1, z2, z3, z4⟩ := hw'.cells); (go_simp); (try with_reducible rfl))
    (try simp only [Act.put]); (try simp only [List.setIfInBounds_toArray]); (try simp only [List.set_cons_zero]); (try simp only [List.set_cons_succ])
    refine wpAnyT_take (L := 9) (i := 1) (v := ?v1b) rfl (by kernel_rfl) (by kernel_rfl) (by kernel_rfl) (by kernel_rfl) (fun _ _ _ h => h) hHeld (Or.inl ⟨by rfl, ?hy1b⟩) ?rest1b
    case hy1b => ((intro w' hw'); (obtain ⟨z0, z1, z2, z3, z4⟩ := hw'.cells); (go_simp); (try with_reducible rfl))
    (try simp only [Act.put]); (try simp only [List.setIfInBounds_toArray]); (try simp only [List.set_cons_zero]); (try simp only [List.set_cons_succ])
    refine wpAnyT_take (L := 9) (i := 2) (v := ?v2b) rfl (by kernel_rfl) (by kernel_rfl) (by kernel_rfl) (by kernel_rfl) (fun _ _ _ h => h) hHeld (Or.inl ⟨by rfl, ?hy2b⟩) ?rest2b
    case hy2b => ((intro w' hw'); (obtain ⟨z0, z1, z2, z3, z4⟩ := hw'.cells); (go_simp); (try with_reducible rfl))
    (try simp only [Act.put]); (try simp only [List.setIfInBounds_toArray]); (try simp only [List.set_cons_zero]); (try simp only [List.set_cons_succ])
    refine wpAnyT_take (L := 9) (i := 3) (v := ?v3b) rfl (by kernel_rfl) (by kernel_rfl) (by kernel_rfl) (by kernel_rfl) (fun _ _ _ h => h) hHeld (Or.inl ⟨by rfl, ?hy3b⟩) ?rest3b
    case hy3b => ((intro w' hw'); (obtain ⟨z0, z1, z2, z3, z4⟩ := hw'.cells); (go_simp); (try with_reducible rfl))
    (try simp only [Act.put]); (try simp only [List.setIfInBounds_toArray]); (try simp only [List.set_cons_zero]); (try simp only [List.set_cons_succ])
    refine wpAnyT_take (L := 9) (i := 4) (v := ?v4b) rfl (by kernel_rfl) (by kernel_rfl) (by kernel_rfl) (by kernel_rfl) (fun _ _ _ h => h) hHeld (Or.inl ⟨by rfl, ?hy4b⟩) ?rest4b
    case hy4b => ((intro w' hw'); (obtain ⟨z0, z1, z2, z3, z4⟩ := hw'.cells); (go_simp); (try with_reducible rfl))
    (try simp only [Act.put]); (try simp only [List.setIfInBounds_toArray]); (try simp only [List.set_cons_zero]); (try simp only [List.set_cons_succ])
    refine wpAnyT_one (L := 9) (i := 5) (by kernel_rfl) rfl (fun K hK => ?_)
    go_simp
    go_at_call 42
    refine (mut_calls _ rb cv l' _ HR3.out (by have := HP3.out; omega) N _ HO3.out.ou.sl HFN.out.1 (by have := HSZ3.out; omega)).mono ?_
    rintro e V4 ⟨M4, v4, cs4, rfl, -, dr⟩
    obtain ⟨v4a, v4c, rfl⟩ := dr.own.val
    obtain ⟨p4, hp4, hr⟩ := dr.rd
    have HO4 := hide (HO3.out.only dr.only)
    have HR4 := hide hr
    have HP4 : Hid (p4 ≤ 2331) := hide (by have := HP3.out; omega)
    have HSZ4 : Hid (M4.kids.sz ≤ 404) := hide (by have h1 := dr.sz; have h2 := HSZ3.out; omega)
    have HD4 := hide (And.intro dr.own (And.intro dr.fit (fun x hx => Nat.lt_of_lt_of_le HO3.out.bb.lt (dr.ge x hx))))
    refine hK.out _ _ (fun _ => HO4.out.bc) ?_
    clear hK K dr hr hp4
    (try simp only [Act.put]); (try simp only [List.setIfInBounds_toArray]); (try simp only [List.set_cons_zero]); (try simp only [List.set_cons_succ])
    refine wpAnyT_one (L := 9) (i := 6) (by kernel_rfl) rfl (fun K hK => ?_)
    go_simp
    go_at_call 42
    refine (mut_calls _ rb cv l' _ HR4.out (by have := HP4.out; omega) M4 _ HD4.out.1.sl HD4.out.2.1 (by have := HSZ4.out; omega)).mono ?_
    rintro e V5 ⟨M5, v5, cs5, rfl, -, dr⟩
    obtain ⟨v5a, v5c, rfl⟩ := dr.own.val
    obtain ⟨p5, hp5, hr⟩ := dr.rd
    have HO5 := hide (HO4.out.only dr.only)
    have HR5 := hide hr
    have HP5 : Hid (p5 ≤ 2335) := hide (by have := HP4.out; omega)
    have HSZ5 : Hid (M5.kids.sz ≤ 405) := hide (by have h1 := dr.sz; have h2 := HSZ4.out; omega)
    have HD5 := hide (And.intro dr.own (And.intro dr.fit (fun x hx => Nat.lt_of_lt_of_le HO4.out.bb.lt (dr.ge x hx))))
    refine hK.out _ _ (fun _ => HO5.out.bc) ?_
    clear hK K dr hr hp5
    (try simp only [Act.put]); (try simp only [List.setIfInBounds_toArray]); (try simp only [List.set_cons_zero]); (try simp only [List.set_cons_succ])
    refine wpAnyT_one (L := 9) (i := 7) (by kernel_rfl) rfl (fun K hK => ?_)
    go_simp
    go_at_call 42
    refine (mut_calls _ rb cv l' _ HR5.out (by have := HP5.out; omega) M5 _ HD5.out.1.sl HD5.out.2.1 (by have := HSZ5.out; omega)).mono ?_
    rintro e V6 ⟨M, v6, cs6, rfl, -, dr⟩
    obtain ⟨v6a, v6c, rfl⟩ := dr.own.val
    obtain ⟨p6, hp6, hr⟩ := dr.rd
    have HO6 := hide (HO5.out.only dr.only)
    have HR6 := hide hr
    have HP6 : Hid (p6 ≤ 2339) := hide (by have := HP5.out; omega)
    have HSZ6 : Hid (M.kids.sz ≤ 406) := hide (by have h1 := dr.sz; have h2 := HSZ5.out; omega)
    have HD6 := hide (And.intro dr.own (And.intro dr.fit (fun x hx => Nat.lt_of_lt_of_le HO5.out.bb.lt (dr.ge x hx))))
    refine hK.out _ _ (fun _ => HO6.out.bc) ?_
    clear hK K dr hr hp6
    (try simp only [Act.put]); (try simp only [List.setIfInBounds_toArray]); (try simp only [List.set_cons_zero]); (try simp only [List.set_cons_succ])
    have HQ := hide (HO6.out.two (M := M) HD6.out.1 HD6.out.2.2)
    have HF : Hid (Fit N ∧ Fit M ∧ N.kids.sz ≤ 500 ∧ M.kids.sz ≤ 500) := hide ⟨HFN.out.1, HD6.out.2.1, by have := HFN.out.2; omega, by have := HSZ6.out; omega⟩
    clear HO2 HO3 HO4 HO5 HO6 HD4 HD5 HD6 HSZ3 HSZ4 HSZ5 HSZ6 HR2 HR3 HR4 HR5 HR6
    obtain ⟨x0, x1, x2, x3, x4⟩ := HQ.out.ba.cells
    have fx := HQ.out.ba.frozen
    have lx := HQ.out.ba.lt
    obtain ⟨y0, y1, y2, y3, y4⟩ := HQ.out.bb.cells
    have fy := HQ.out.bb.frozen
    have ly := HQ.out.bb.lt
    refine wpAnyT_one (L := 9) (i := 8) (by kernel_rfl) rfl (fun K hK => ?_)
    go_simp
    have HQ2 := hide (HQ.out.setA (.int .i64 N.k) (.string N.fr) (.string N.tg) (.int .i64 N.ix) (.slice ua N.kids.len uc))
    refine hK.out _ _ (fun _ => HQ2.out.bc) ?_
    clear hK K x0 x1 x2 x3 x4 fx lx y0 y1 y2 y3 y4 fy ly HQ
    have HQ := HQ2
    clear HQ2
    generalize (((((V6.setCell ⟨w.heap.size, 0, none⟩ (.int .i64 N.k)).setCell ⟨w.heap.size, 1, none⟩ (.string N.fr)).setCell ⟨w.heap.size, 2, none⟩ (.string N.tg)).setCell ⟨w.heap.size, 3, none⟩ (.int .i64 N.ix)).setCell ⟨w.heap.size, 4, none⟩ (.slice ua N.kids.len uc)) = U2 at *
    (try simp only [Act.put]); (try simp only [List.setIfInBounds_toArray]); (try simp only [List.set_cons_zero]); (try simp only [List.set_cons_succ])
    obtain ⟨x0, x1, x2, x3, x4⟩ := HQ.out.ba.cells
    have fx := HQ.out.ba.frozen
    have lx := HQ.out.ba.lt
    obtain ⟨y0, y1, y2, y3, y4⟩ := HQ.out.bb.cells
    have fy := HQ.out.bb.frozen
    have ly := HQ.out.bb.lt
    refine wpAnyT_one (L := 9) (i := 9) (by kernel_rfl) rfl (fun K hK => ?_)
    go_simp
    have HQ2 := hide (HQ.out.setB (.int .i64 M.k) (.string M.fr) (.string M.tg) (.int .i64 M.ix) (.slice v6a M.kids.len v6c))
    refine hK.out _ _ (fun _ => HQ2.out.bc) ?_
    clear hK K x0 x1 x2 x3 x4 fx lx y0 y1 y2 y3 y4 fy ly HQ
    have HQ := HQ2
    clear HQ2
    generalize (((((U2.setCell ⟨w.heap.size + 1, 0, none⟩ (.int .i64 M.k)).setCell ⟨w.heap.size + 1, 1, none⟩ (.string M.fr)).setCell ⟨w.heap.size + 1, 2, none⟩ (.string M.tg)).setCell ⟨w.heap.size + 1, 3, none⟩ (.int .i64 M.ix)).setCell ⟨w.heap.size + 1, 4, none⟩ (.slice v6a M.kids.len v6c)) = U3 at *
    refine wpAnyT_done (by kernel_rfl) ?_ _
    obtain ⟨x0, x1, x2, x3, x4⟩ := HQ.out.ba.cells
    have fx := HQ.out.ba.frozen
    have lx := HQ.out.ba.lt
    obtain ⟨y0, y1, y2, y3, y4⟩ := HQ.out.bb.cells
    have fy := HQ.out.bb.frozen
    have ly := HQ.out.bb.lt
    go_wp2_with fail
    refine bodyPost_ret (v := .tuple #[.agg #[.int .i64 N.k, .string N.fr, .string N.tg, .int .i64 N.ix, .slice ua N.kids.len uc], .agg #[.int .i64 M.k, .string M.fr, .string M.tg, .int .i64 M.ix, .slice v6a M.kids.len v6c]]) (by simp [results, Tryd.results8, go_sem, *]) rfl ?_
    exact ⟨N, M, _, _, bs, cs6, rfl, HQ.out.ou, HQ.out.ov, HQ.out.bel, HF.out.1, HF.out.2.1, HF.out.2.2.1, HF.out.2.2.2⟩
end Go.Proofs.YtfppglfajbmapaaDoor

/- DrawIsRole, DrawIsLabel of the model: a short text. -/
namespace Go.Proofs.YtfppglfajbmapaaDoor
open Go.RowKit

/-- A drawn text. -/
def DrawnT (w : World) (e : Ending) (w' : World) : Prop := ∃ s : ByteArray, s.size ≤ maxLen ∧ e = .returned (.string s) ∧ Below w.heap.size w w'
theorem esl7 (w : World) (s0 s1 s2 s3 s4 s5 s6 : ByteArray) (t : TypeId) (h0 : s0.size ≤ maxLen) (h1 : s1.size ≤ maxLen) (h2 : s2.size ≤ maxLen) (h3 : s3.size ≤ maxLen) (h4 : s4.size ≤ maxLen) (h5 : s5.size ≤ maxLen) (h6 : s6.size ≤ maxLen) :
    SlG elS (w.alloc (.cells #[.string s0, .string s1, .string s2, .string s3, .string s4, .string s5, .string s6] t)) (.slice (some ⟨w.heap.size, 0, none⟩) 7 7) [s0, s1, s2, s3, s4, s5, s6] := by
  have hh := heap_new w (.cells #[.string s0, .string s1, .string s2, .string s3, .string s4, .string s5, .string s6] t)
  refine ⟨_, 7, rfl, Nat.le_refl _, by unfold maxLen; omega, Or.inr ⟨w.heap.size, 0, rfl, ⟨h0, ?_⟩, ⟨h1, ?_⟩, ⟨h2, ?_⟩, ⟨h3, ?_⟩, ⟨h4, ?_⟩, ⟨h5, ?_⟩, ⟨h6, ?_⟩, trivial⟩⟩
  all_goals (rw [cell_of_heap hh]; rfl)
theorem esl6 (w : World) (s0 s1 s2 s3 s4 s5 : ByteArray) (t : TypeId) (h0 : s0.size ≤ maxLen) (h1 : s1.size ≤ maxLen) (h2 : s2.size ≤ maxLen) (h3 : s3.size ≤ maxLen) (h4 : s4.size ≤ maxLen) (h5 : s5.size ≤ maxLen) :
    SlG elS (w.alloc (.cells #[.string s0, .string s1, .string s2, .string s3, .string s4, .string s5] t)) (.slice (some ⟨w.heap.size, 0, none⟩) 6 6) [s0, s1, s2, s3, s4, s5] := by
  have hh := heap_new w (.cells #[.string s0, .string s1, .string s2, .string s3, .string s4, .string s5] t)
  refine ⟨_, 6, rfl, Nat.le_refl _, by unfold maxLen; omega, Or.inr ⟨w.heap.size, 0, rfl, ⟨h0, ?_⟩, ⟨h1, ?_⟩, ⟨h2, ?_⟩, ⟨h3, ?_⟩, ⟨h4, ?_⟩, ⟨h5, ?_⟩, trivial⟩⟩
  all_goals (rw [cell_of_heap hh]; rfl)

set_option maxHeartbeats 1000000 in
set_option maxRecDepth 100000 in
theorem drawR_calls (w : World) (sv : Value) (l : List Nat) (hs : SlG elY w sv l) : Calls Tryd.prog 9 #[sv] w (DrawnT w) := by
  have HSV := hide hs
  clear hs
  go_enter Tryd.func9, Tryd.ntmps9
  go_wp2_with fail
  refine (open_rd w sv l HSV.out).mono ?_
  rintro e w1 ⟨cv, l', rfl, hrd, hb, hz⟩
  have HRD := hide hrd
  have HB1 := hide hb
  have HZ := hide hz
  clear hrd hb hz
  go_wp2_with fail
  refine (of_calls _ w.heap.size cv l' 0 (HRD.out.below (alloc_below _ _)) (by omega) [⟨#[65]⟩, ⟨#[66]⟩, ⟨#[67]⟩, ⟨#[68]⟩, ⟨#[97]⟩, ⟨#[]⟩, ⟨#[65, 66]⟩] _ (esl7 w1 _ _ _ _ _ _ _ ( /- t -/ 9) (show (1 : Nat) ≤ maxLen by unfold maxLen; omega) (show (1 : Nat) ≤ maxLen by unfold maxLen; omega) (show (1 : Nat) ≤ maxLen by unfold maxLen; omega) (show (1 : Nat) ≤ maxLen by unfold maxLen; omega) (show (1 : Nat) ≤ maxLen by unfold maxLen; omega) (show (0 : Nat) ≤ maxLen by unfold maxLen; omega) (show (2 : Nat) ≤ maxLen by unfold maxLen; omega)) (by decide) (by decide) (new_far HRD.out.lt)).mono ?_
  rintro e w2 ⟨s, hs, rfl, hask⟩
  have hsz : s.size ≤ maxLen := by
    have h : s.size ≤ 2 := by
      simp only [List.mem_cons, List.not_mem_nil, or_false] at hs
      rcases hs with rfl | rfl | rfl | rfl | rfl | rfl | rfl <;> decide
    unfold maxLen
    omega
  have hbl := alloc_below w1 (.cells #[.string ⟨#[65]⟩, .string ⟨#[66]⟩, .string ⟨#[67]⟩, .string ⟨#[68]⟩, .string ⟨#[97]⟩, .string ⟨#[]⟩, .string ⟨#[65, 66]⟩] ( /- t -/ 9))
  have HBF : Hid (Below w.heap.size w w2) := hide ((HB1.out.trans (hbl.mono HB1.out.size)).trans (hask.only.to_below (Nat.le_refl _) (by simp; have := HZ.out; omega)))
  have HSZ := hide hsz
  clear hs hask hbl hsz
  go_wp2_with fail
  refine bodyPost_ret (v := .string s) (by simp [results, Tryd.results9, go_sem, *]) rfl ?_
  exact ⟨s, HSZ.out, rfl, HBF.out⟩

set_option maxHeartbeats 1000000 in
set_option maxRecDepth 100000 in
theorem drawL_calls (w : World) (sv : Value) (l : List Nat) (hs : SlG elY w sv l) : Calls Tryd.prog 10 #[sv] w (DrawnT w) := by
  have HSV := hide hs
  clear hs
  go_enter Tryd.func10, Tryd.ntmps10
  go_wp2_with fail
  refine (open_rd w sv l HSV.out).mono ?_
  rintro e w1 ⟨cv, l', rfl, hrd, hb, hz⟩
  have HRD := hide hrd
  have HB1 := hide hb
  have HZ := hide hz
  clear hrd hb hz
  go_wp2_with fail
  refine (of_calls _ w.heap.size cv l' 0 (HRD.out.below (alloc_below _ _)) (by omega) [⟨#[97]⟩, ⟨#[100]⟩, ⟨#[101]⟩, ⟨#[65]⟩, ⟨#[]⟩, ⟨#[97, 98]⟩] _ (esl6 w1 _ _ _ _ _ _ ( /- t -/ 9) (show (1 : Nat) ≤ maxLen by unfold maxLen; omega) (show (1 : Nat) ≤ maxLen by unfold maxLen; omega) (show (1 : Nat) ≤ maxLen by unfold maxLen; omega) (show (1 : Nat) ≤ maxLen by unfold maxLen; omega) (show (0 : Nat) ≤ maxLen by unfold maxLen; omega) (show (2 : Nat) ≤ maxLen by unfold maxLen; omega)) (by decide) (by decide) (new_far HRD.out.lt)).mono ?_
  rintro e w2 ⟨s, hs, rfl, hask⟩
  have hsz : s.size ≤ maxLen := by
    have h : s.size ≤ 2 := by
      simp only [List.mem_cons, List.not_mem_nil, or_false] at hs
      rcases hs with rfl | rfl | rfl | rfl | rfl | rfl <;> decide
    unfold maxLen
    omega
  have hbl := alloc_below w1 (.cells #[.string ⟨#[97]⟩, .string ⟨#[100]⟩, .string ⟨#[101]⟩, .string ⟨#[65]⟩, .string ⟨#[]⟩, .string ⟨#[97, 98]⟩] ( /- t -/ 9))
  have HBF : Hid (Below w.heap.size w w2) := hide ((HB1.out.trans (hbl.mono HB1.out.size)).trans (hask.only.to_below (Nat.le_refl _) (by simp; have := HZ.out; omega)))
  have HSZ := hide hsz
  clear hs hask hbl hsz
  go_wp2_with fail
  refine bodyPost_ret (v := .string s) (by simp [results, Tryd.results10, go_sem, *]) rfl ?_
  exact ⟨s, HSZ.out, rfl, HBF.out⟩
end Go.Proofs.YtfppglfajbmapaaDoor

/- A tree in a box, in memory of its own. -/
namespace Go.Proofs.YtfppglfajbmapaaDoor
open Go.RowKit

/-- A tree in a box, in memory of its own. -/
structure Nv (w : World) (b : Nat) (g : Nd) (u : Value) : Prop where
  box : Box5 w b (.int .i64 g.k) (.string g.fr) (.string g.tg) (.int .i64 g.ix) u
  own : ∃ bs, Ow w u g.kids bs
theorem Nv.sl {w : World} {b : Nat} {g : Nd} {u : Value} (h : Nv w b g u) : Sl w u g.kids := by
  obtain ⟨bs, h⟩ := h.own
  exact h.sl
theorem Nv.below {w w' : World} {b : Nat} {g : Nd} {u : Value} (h : Nv w b g u) (hb : Below w.heap.size w w') : Nv w' b g u := by
  obtain ⟨bs, h2⟩ := h.own
  exact ⟨h.box.below hb, bs, h2.same (Same.of_below hb h2.lt)⟩
theorem Nv.drew {w : World} {b : Nat} {g : Nd} {u : Value} (h : Nv w b g u) : Nv w.drew b g u := h.below (Below.refl _ _).drew
theorem Nv.lt {w : World} {b : Nat} {g : Nd} {u : Value} (h : Nv w b g u) : b < w.heap.size := h.box.lt
/-- A new box. -/
theorem Nv.now {w : World} {g : Nd} {u : Value} {bs : List Nat} (h : Ow w u g.kids bs) (t : TypeId) : Nv (w.alloc (.cells #[.int .i64 g.k, .string g.fr, .string g.tg, .int .i64 g.ix, u] t)) w.heap.size g u :=
  ⟨Box5.now w _ _ _ _ _ t, bs, h.same (Same.of_below (alloc_below w _) h.lt)⟩
end Go.Proofs.YtfppglfajbmapaaDoor

/- The law FnGlobalEqual: its walk. -/
namespace Go.Proofs.YtfppglfajbmapaaDoor
open Go.RowKit

theorem toList_inj {a b : ByteArray} (h : a.toList = b.toList) : a = b := by
  rw [ByteArray.toList_eq, ByteArray.toList_eq] at h
  exact bl_ext h
theorem eq_ok_w {g : Nd} (h : okN g.k g.fr g.tg g.ix g.kids = true) : wN g 0 0 = true := by
  unfold okN at h
  rw [vldN_w g 0 0 40 (by omega) (by omega)] at h
  simp only [Bool.and_eq_true, decide_eq_true_eq] at h
  exact h.1.1
/-- Valid types of one text are one. -/
theorem text_eq {a b : Nd} (ha : textN a.k a.fr a.tg a.ix a.kids ≠ ⟨#[]⟩) (hb : textN b.k b.fr b.tg b.ix b.kids ≠ ⟨#[]⟩) (h : textN a.k a.fr a.tg a.ix a.kids = textN b.k b.fr b.tg b.ix b.kids) : a = b := by
  unfold textN at ha hb h
  cases h1 : okN a.k a.fr a.tg a.ix a.kids with
  | false => rw [h1] at ha; exact absurd rfl ha
  | true =>
    cases h2 : okN b.k b.fr b.tg b.ix b.kids with
    | false => rw [h2] at hb; exact absurd rfl hb
    | true =>
      rw [h1, h2] at h
      exact text_one (eq_ok_w h1) (eq_ok_w h2) h

set_option maxHeartbeats 400000 in
theorem geq2_big (w : World) (a : Option Addr) (n c : Nat) (hn : (1048576 : Int) < (n : Int)) :
    Calls Tryd.prog 3 #[.slice a n c] w fun e w' => e = .returned (.bool true) ∧ Below w.heap.size w w' := by
  go_enter Tryd.func3, Tryd.ntmps3
  go_wp2_with fail
  go_ret
  exact ⟨rfl, Below.refl _ _⟩

set_option maxHeartbeats 4000000 in
set_option maxRecDepth 100000 in
theorem geq2_small (w : World) (a : Option Addr) (c : Nat) (l : List Nat) (hs : SlG elY w (.slice a l.length c) l) (hl : l.length ≤ 1048576) :
    Calls Tryd.prog 3 #[.slice a l.length c] w fun e w' => e = .returned (.bool true) ∧ Below w.heap.size w w' := by
  have hl2 : ¬ (1048576 : Int) < (l.length : Int) := by omega
  have HSV := hide hs
  clear hs
  go_enter Tryd.func3, Tryd.ntmps3
  go_wp2_with fail
  refine (drawG_calls w _ l HSV.out).mono ?_
  rintro e w1 ⟨N, M, u, v, bs, cs, rfl, hou, hov, hb1, hfn, hfm, hsn, hsm⟩
  obtain ⟨ua, uc, rfl⟩ := hou.val
  obtain ⟨va, vc, rfl⟩ := hov.val
  have hbA := alloc_below w1 (.cells #[.int .i64 N.k, .string N.fr, .string N.tg, .int .i64 N.ix, .slice ua N.kids.len uc] ( /- t -/ 25))
  have hz : (w1.alloc (.cells #[.int .i64 N.k, .string N.fr, .string N.tg, .int .i64 N.ix, .slice ua N.kids.len uc] ( /- t -/ 25))).heap.size = w1.heap.size + 1 := by simp
  have hbB := alloc_below (w1.alloc (.cells #[.int .i64 N.k, .string N.fr, .string N.tg, .int .i64 N.ix, .slice ua N.kids.len uc] ( /- t -/ 25))) (.cells #[.int .i64 M.k, .string M.fr, .string M.tg, .int .i64 M.ix, .slice va M.kids.len vc] ( /- t -/ 25))
  have HA := hide ((Nv.now hou ( /- t -/ 25)).below hbB)
  have hB := Nv.now (g := M) (hov.same (Same.of_below hbA hov.lt)) ( /- t -/ 25)
  rw [hz] at hB
  have HB := hide hB
  have HL := hide ((hb1.alloc hb1.size (.cells #[.int .i64 N.k, .string N.fr, .string N.tg, .int .i64 N.ix, .slice ua N.kids.len uc] ( /- t -/ 25))).alloc (Nat.le_trans hb1.size (by rw [hz]; omega)) (.cells #[.int .i64 M.k, .string M.fr, .string M.tg, .int .i64 M.ix, .slice va M.kids.len vc] ( /- t -/ 25)))
  have HSN := hide (And.intro hsn hsm)
  clear hou hov hb1 hfn hfm hsn hsm hbA hz hbB hB
  go_upto_region 4 with fail
  generalize (w1.alloc (.cells #[.int .i64 N.k, .string N.fr, .string N.tg, .int .i64 N.ix, .slice ua N.kids.len uc] ( /- t -/ 25))).alloc (.cells #[.int .i64 M.k, .string M.fr, .string M.tg, .int .i64 M.ix, .slice va M.kids.len vc] ( /- t -/ 25)) = W1 at *
  generalize w1.heap.size = b1 at *
  go_wp2_with fail
  refine (drawR_calls W1 _ l (HSV.out.still (Still.of_below HL.out))).mono ?_
  rintro e W2 ⟨r, hr, rfl, hb⟩
  have HA2 := hide (HA.out.below hb)
  have HB2 := hide (HB.out.below hb)
  have HL2 := hide (HL.out.trans (hb.mono HL.out.size))
  clear HA HB HL hb hr
  go_wp2_with fail
  refine (drawL_calls W2 _ l (HSV.out.still (Still.of_below HL2.out))).mono ?_
  rintro e W3 ⟨s, hs, rfl, hb⟩
  have HA := hide (HA2.out.below hb)
  have HB := hide (HB2.out.below hb)
  have HL := hide (HL2.out.trans (hb.mono HL2.out.size))
  clear HA2 HB2 HL2 hb hs HSV
  have HI1 := hide (fun (W : World) (u u' : Value) (h : ∃ bs, Ow W u N.kids bs) (h' : ∃ bs, Ow W u' M.kids bs) => implSame W N.k N.ix M.k M.ix N.fr N.tg M.fr M.tg u u' N.kids M.kids _ _ h.choose_spec h'.choose_spec (by have := HSN.out.1; omega))
  have HM1 := hide (fun (W : World) (u u' : Value) (h : Sl W u N.kids) (h' : Sl W u' M.kids) => ge_calls W N.k N.ix M.k M.ix N.fr N.tg M.fr M.tg u u' N.kids M.kids h h')
  have HI2 := hide (fun (W : World) (u u' : Value) (h : ∃ bs, Ow W u M.kids bs) (h' : ∃ bs, Ow W u' N.kids bs) => implSame W M.k M.ix N.k N.ix M.fr M.tg N.fr N.tg u u' M.kids N.kids _ _ h.choose_spec h'.choose_spec (by have := HSN.out.2; omega))
  have HI3 := hide (fun (W : World) (u u' : Value) (h : ∃ bs, Ow W u N.kids bs) (h' : ∃ bs, Ow W u' N.kids bs) => implSame W N.k N.ix N.k N.ix N.fr N.tg N.fr N.tg u u' N.kids N.kids _ _ h.choose_spec h'.choose_spec (by have := HSN.out.1; omega))
  have HR1 := hide (fun (W : World) => implRole r W)
  have HR2 := hide (fun (W : World) => specRole r W)
  have HS1 := hide (fun (W : World) => implLab s W)
  have HS2 := hide (fun (W : World) => specLab s W)
  have HF1 := hide (fun (W : World) (u : Value) (h : Sl W u N.kids) => implFormat W N.k N.ix N.fr N.tg u N.kids h)
  have HF2 := hide (fun (W : World) (u : Value) (h : Sl W u M.kids) => implFormat W M.k M.ix M.fr M.tg u M.kids h)
  rw [sameN_rf] at HI3
  rw [sameN_sym M N] at HI2
  have HEQ : Hid (sameN N.k N.fr N.tg N.ix N.kids M.k M.fr M.tg M.ix M.kids = true ↔ N = M) := hide sameN_eq
  have HTX : Hid (textN N.k N.fr N.tg N.ix N.kids ≠ ⟨#[]⟩ → textN M.k M.fr M.tg M.ix M.kids ≠ ⟨#[]⟩ → textN N.k N.fr N.tg N.ix N.kids = textN M.k M.fr M.tg M.ix M.kids → N = M) := hide text_eq
  have HTY : Hid (N = M → textN N.k N.fr N.tg N.ix N.kids = textN M.k M.fr M.tg M.ix M.kids) := hide (fun h => by rw [h])
  generalize textN N.k N.fr N.tg N.ix N.kids = S at *
  generalize textN M.k M.fr M.tg M.ix M.kids = X at *
  generalize sameN N.k N.fr N.tg N.ix N.kids M.k M.fr M.tg M.ix M.kids = eq at *
  generalize roleB r = rr at *
  generalize labB s = ss at *
  by_cases hS : S = ⟨#[]⟩
  · subst hS
    obtain ⟨x0, x1, x2, x3, x4⟩ := HA.out.box.cells
    have lx := HA.out.lt
    obtain ⟨y0, y1, y2, y3, y4⟩ := HB.out.box.cells
    have ly := HB.out.lt
    go_wp2_with fail
    refine (HI1.out _ _ _ HA.out.own HB.out.own).mono ?_
    rintro e V1 ⟨rfl, hb⟩
    have HAn := hide (HA.out.below hb)
    have HBn := hide (HB.out.below hb)
    have HLn := hide (HL.out.trans (hb.mono HL.out.size))
    clear x0 x1 x2 x3 x4 lx y0 y1 y2 y3 y4 ly
    clear HA HB HL hb
    have HA := HAn
    have HB := HBn
    have HL := HLn
    clear HAn HBn HLn
    obtain ⟨x0, x1, x2, x3, x4⟩ := HA.out.box.cells
    have lx := HA.out.lt
    obtain ⟨y0, y1, y2, y3, y4⟩ := HB.out.box.cells
    have ly := HB.out.lt
    go_wp2_with fail
    refine (HM1.out _ _ _ HA.out.sl HB.out.sl).mono ?_
    rintro e V2 ⟨rfl, hb⟩
    have HAn := hide (HA.out.below hb)
    have HBn := hide (HB.out.below hb)
    have HLn := hide (HL.out.trans (hb.mono HL.out.size))
    clear x0 x1 x2 x3 x4 lx y0 y1 y2 y3 y4 ly
    clear HA HB HL hb
    have HA := HAn
    have HB := HBn
    have HL := HLn
    clear HAn HBn HLn
    obtain ⟨x0, x1, x2, x3, x4⟩ := HA.out.box.cells
    have lx := HA.out.lt
    obtain ⟨y0, y1, y2, y3, y4⟩ := HB.out.box.cells
    have ly := HB.out.lt
    go_wp2_with fail
    refine (HI2.out _ _ _ HB.out.own HA.out.own).mono ?_
    rintro e V3 ⟨rfl, hb⟩
    have HAn := hide (HA.out.below hb)
    have HBn := hide (HB.out.below hb)
    have HLn := hide (HL.out.trans (hb.mono HL.out.size))
    clear x0 x1 x2 x3 x4 lx y0 y1 y2 y3 y4 ly
    clear HA HB HL hb
    have HA := HAn
    have HB := HBn
    have HL := HLn
    clear HAn HBn HLn
    obtain ⟨x0, x1, x2, x3, x4⟩ := HA.out.box.cells
    have lx := HA.out.lt
    obtain ⟨y0, y1, y2, y3, y4⟩ := HB.out.box.cells
    have ly := HB.out.lt
    go_wp2_with fail
    refine (HI3.out _ _ _ HA.out.own HA.out.own).mono ?_
    rintro e V4 ⟨rfl, hb⟩
    have HAn := hide (HA.out.below hb)
    have HBn := hide (HB.out.below hb)
    have HLn := hide (HL.out.trans (hb.mono HL.out.size))
    clear x0 x1 x2 x3 x4 lx y0 y1 y2 y3 y4 ly
    clear HA HB HL hb
    have HA := HAn
    have HB := HBn
    have HL := HLn
    clear HAn HBn HLn
    obtain ⟨x0, x1, x2, x3, x4⟩ := HA.out.box.cells
    have lx := HA.out.lt
    obtain ⟨y0, y1, y2, y3, y4⟩ := HB.out.box.cells
    have ly := HB.out.lt
    go_wp2_with fail
    refine (HR1.out _).mono ?_
    rintro e V5 ⟨rfl, rfl⟩
    go_wp2_with fail
    refine (HR2.out _).mono ?_
    rintro e V6 ⟨rfl, rfl⟩
    go_wp2_with fail
    refine (HS1.out _).mono ?_
    rintro e V7 ⟨rfl, rfl⟩
    go_wp2_with fail
    refine (HS2.out _).mono ?_
    rintro e V8 ⟨rfl, rfl⟩
    go_wp2_with fail
    refine (HF1.out _ _ HA.out.sl).mono ?_
    rintro e V9 ⟨rfl, hb⟩
    have HAn := hide (HA.out.below hb)
    have HBn := hide (HB.out.below hb)
    have HLn := hide (HL.out.trans (hb.mono HL.out.size))
    clear x0 x1 x2 x3 x4 lx y0 y1 y2 y3 y4 ly
    clear HA HB HL hb
    have HA := HAn
    have HB := HBn
    have HL := HLn
    clear HAn HBn HLn
    obtain ⟨x0, x1, x2, x3, x4⟩ := HA.out.box.cells
    have lx := HA.out.lt
    obtain ⟨y0, y1, y2, y3, y4⟩ := HB.out.box.cells
    have ly := HB.out.lt
    go_wp2_with fail
    refine (HF2.out _ _ HB.out.sl).mono ?_
    rintro e V10 ⟨rfl, hb⟩
    have HAn := hide (HA.out.below hb)
    have HBn := hide (HB.out.below hb)
    have HLn := hide (HL.out.trans (hb.mono HL.out.size))
    clear x0 x1 x2 x3 x4 lx y0 y1 y2 y3 y4 ly
    clear HA HB HL hb
    have HA := HAn
    have HB := HBn
    have HL := HLn
    clear HAn HBn HLn
    obtain ⟨x0, x1, x2, x3, x4⟩ := HA.out.box.cells
    have lx := HA.out.lt
    obtain ⟨y0, y1, y2, y3, y4⟩ := HB.out.box.cells
    have ly := HB.out.lt
    go_wp2_with fail
    go_ret
    exact ⟨rfl, HL.out⟩
  · by_cases hX : X = ⟨#[]⟩
    · subst hX
      have q0 : ¬ S.toList = [] := fun h => hS (toList_inj (h.trans (by simp [ByteArray.toList_eq])))
      have q1 : (S.toList == []) = false := beq_eq_false_iff_ne.2 q0
      obtain ⟨x0, x1, x2, x3, x4⟩ := HA.out.box.cells
      have lx := HA.out.lt
      obtain ⟨y0, y1, y2, y3, y4⟩ := HB.out.box.cells
      have ly := HB.out.lt
      go_wp2_with fail
      refine (HI1.out _ _ _ HA.out.own HB.out.own).mono ?_
      rintro e V1 ⟨rfl, hb⟩
      have HAn := hide (HA.out.below hb)
      have HBn := hide (HB.out.below hb)
      have HLn := hide (HL.out.trans (hb.mono HL.out.size))
      clear x0 x1 x2 x3 x4 lx y0 y1 y2 y3 y4 ly
      clear HA HB HL hb
      have HA := HAn
      have HB := HBn
      have HL := HLn
      clear HAn HBn HLn
      obtain ⟨x0, x1, x2, x3, x4⟩ := HA.out.box.cells
      have lx := HA.out.lt
      obtain ⟨y0, y1, y2, y3, y4⟩ := HB.out.box.cells
      have ly := HB.out.lt
      go_wp2_with fail
      refine (HM1.out _ _ _ HA.out.sl HB.out.sl).mono ?_
      rintro e V2 ⟨rfl, hb⟩
      have HAn := hide (HA.out.below hb)
      have HBn := hide (HB.out.below hb)
      have HLn := hide (HL.out.trans (hb.mono HL.out.size))
      clear x0 x1 x2 x3 x4 lx y0 y1 y2 y3 y4 ly
      clear HA HB HL hb
      have HA := HAn
      have HB := HBn
      have HL := HLn
      clear HAn HBn HLn
      obtain ⟨x0, x1, x2, x3, x4⟩ := HA.out.box.cells
      have lx := HA.out.lt
      obtain ⟨y0, y1, y2, y3, y4⟩ := HB.out.box.cells
      have ly := HB.out.lt
      go_wp2_with fail
      refine (HI2.out _ _ _ HB.out.own HA.out.own).mono ?_
      rintro e V3 ⟨rfl, hb⟩
      have HAn := hide (HA.out.below hb)
      have HBn := hide (HB.out.below hb)
      have HLn := hide (HL.out.trans (hb.mono HL.out.size))
      clear x0 x1 x2 x3 x4 lx y0 y1 y2 y3 y4 ly
      clear HA HB HL hb
      have HA := HAn
      have HB := HBn
      have HL := HLn
      clear HAn HBn HLn
      obtain ⟨x0, x1, x2, x3, x4⟩ := HA.out.box.cells
      have lx := HA.out.lt
      obtain ⟨y0, y1, y2, y3, y4⟩ := HB.out.box.cells
      have ly := HB.out.lt
      go_wp2_with fail
      refine (HI3.out _ _ _ HA.out.own HA.out.own).mono ?_
      rintro e V4 ⟨rfl, hb⟩
      have HAn := hide (HA.out.below hb)
      have HBn := hide (HB.out.below hb)
      have HLn := hide (HL.out.trans (hb.mono HL.out.size))
      clear x0 x1 x2 x3 x4 lx y0 y1 y2 y3 y4 ly
      clear HA HB HL hb
      have HA := HAn
      have HB := HBn
      have HL := HLn
      clear HAn HBn HLn
      obtain ⟨x0, x1, x2, x3, x4⟩ := HA.out.box.cells
      have lx := HA.out.lt
      obtain ⟨y0, y1, y2, y3, y4⟩ := HB.out.box.cells
      have ly := HB.out.lt
      go_wp2_with fail
      refine (HR1.out _).mono ?_
      rintro e V5 ⟨rfl, rfl⟩
      go_wp2_with fail
      refine (HR2.out _).mono ?_
      rintro e V6 ⟨rfl, rfl⟩
      go_wp2_with fail
      refine (HS1.out _).mono ?_
      rintro e V7 ⟨rfl, rfl⟩
      go_wp2_with fail
      refine (HS2.out _).mono ?_
      rintro e V8 ⟨rfl, rfl⟩
      go_wp2_with fail
      refine (HF1.out _ _ HA.out.sl).mono ?_
      rintro e V9 ⟨rfl, hb⟩
      have HAn := hide (HA.out.below hb)
      have HBn := hide (HB.out.below hb)
      have HLn := hide (HL.out.trans (hb.mono HL.out.size))
      clear x0 x1 x2 x3 x4 lx y0 y1 y2 y3 y4 ly
      clear HA HB HL hb
      have HA := HAn
      have HB := HBn
      have HL := HLn
      clear HAn HBn HLn
      obtain ⟨x0, x1, x2, x3, x4⟩ := HA.out.box.cells
      have lx := HA.out.lt
      obtain ⟨y0, y1, y2, y3, y4⟩ := HB.out.box.cells
      have ly := HB.out.lt
      go_wp2_with fail
      refine (HF2.out _ _ HB.out.sl).mono ?_
      rintro e V10 ⟨rfl, hb⟩
      have HAn := hide (HA.out.below hb)
      have HBn := hide (HB.out.below hb)
      have HLn := hide (HL.out.trans (hb.mono HL.out.size))
      clear x0 x1 x2 x3 x4 lx y0 y1 y2 y3 y4 ly
      clear HA HB HL hb
      have HA := HAn
      have HB := HBn
      have HL := HLn
      clear HAn HBn HLn
      obtain ⟨x0, x1, x2, x3, x4⟩ := HA.out.box.cells
      have lx := HA.out.lt
      obtain ⟨y0, y1, y2, y3, y4⟩ := HB.out.box.cells
      have ly := HB.out.lt
      go_wp2_with fail
      go_ret
      exact ⟨rfl, HL.out⟩
    · cases eq with
      | true =>
        have hSX := HTY.out (HEQ.out.1 rfl)
        subst hSX
        clear hX
        have q0 : ¬ S.toList = [] := fun h => hS (toList_inj (h.trans (by simp [ByteArray.toList_eq])))
        have q1 : (S.toList == []) = false := beq_eq_false_iff_ne.2 q0
        obtain ⟨x0, x1, x2, x3, x4⟩ := HA.out.box.cells
        have lx := HA.out.lt
        obtain ⟨y0, y1, y2, y3, y4⟩ := HB.out.box.cells
        have ly := HB.out.lt
        go_wp2_with fail
        refine (HI1.out _ _ _ HA.out.own HB.out.own).mono ?_
        rintro e V1 ⟨rfl, hb⟩
        have HAn := hide (HA.out.below hb)
        have HBn := hide (HB.out.below hb)
        have HLn := hide (HL.out.trans (hb.mono HL.out.size))
        clear x0 x1 x2 x3 x4 lx y0 y1 y2 y3 y4 ly
        clear HA HB HL hb
        have HA := HAn
        have HB := HBn
        have HL := HLn
        clear HAn HBn HLn
        obtain ⟨x0, x1, x2, x3, x4⟩ := HA.out.box.cells
        have lx := HA.out.lt
        obtain ⟨y0, y1, y2, y3, y4⟩ := HB.out.box.cells
        have ly := HB.out.lt
        go_wp2_with fail
        refine (HM1.out _ _ _ HA.out.sl HB.out.sl).mono ?_
        rintro e V2 ⟨rfl, hb⟩
        have HAn := hide (HA.out.below hb)
        have HBn := hide (HB.out.below hb)
        have HLn := hide (HL.out.trans (hb.mono HL.out.size))
        clear x0 x1 x2 x3 x4 lx y0 y1 y2 y3 y4 ly
        clear HA HB HL hb
        have HA := HAn
        have HB := HBn
        have HL := HLn
        clear HAn HBn HLn
        obtain ⟨x0, x1, x2, x3, x4⟩ := HA.out.box.cells
        have lx := HA.out.lt
        obtain ⟨y0, y1, y2, y3, y4⟩ := HB.out.box.cells
        have ly := HB.out.lt
        go_wp2_with fail
        refine (HI2.out _ _ _ HB.out.own HA.out.own).mono ?_
        rintro e V3 ⟨rfl, hb⟩
        have HAn := hide (HA.out.below hb)
        have HBn := hide (HB.out.below hb)
        have HLn := hide (HL.out.trans (hb.mono HL.out.size))
        clear x0 x1 x2 x3 x4 lx y0 y1 y2 y3 y4 ly
        clear HA HB HL hb
        have HA := HAn
        have HB := HBn
        have HL := HLn
        clear HAn HBn HLn
        obtain ⟨x0, x1, x2, x3, x4⟩ := HA.out.box.cells
        have lx := HA.out.lt
        obtain ⟨y0, y1, y2, y3, y4⟩ := HB.out.box.cells
        have ly := HB.out.lt
        go_wp2_with fail
        refine (HI3.out _ _ _ HA.out.own HA.out.own).mono ?_
        rintro e V4 ⟨rfl, hb⟩
        have HAn := hide (HA.out.below hb)
        have HBn := hide (HB.out.below hb)
        have HLn := hide (HL.out.trans (hb.mono HL.out.size))
        clear x0 x1 x2 x3 x4 lx y0 y1 y2 y3 y4 ly
        clear HA HB HL hb
        have HA := HAn
        have HB := HBn
        have HL := HLn
        clear HAn HBn HLn
        obtain ⟨x0, x1, x2, x3, x4⟩ := HA.out.box.cells
        have lx := HA.out.lt
        obtain ⟨y0, y1, y2, y3, y4⟩ := HB.out.box.cells
        have ly := HB.out.lt
        go_wp2_with fail
        refine (HR1.out _).mono ?_
        rintro e V5 ⟨rfl, rfl⟩
        go_wp2_with fail
        refine (HR2.out _).mono ?_
        rintro e V6 ⟨rfl, rfl⟩
        go_wp2_with fail
        refine (HS1.out _).mono ?_
        rintro e V7 ⟨rfl, rfl⟩
        go_wp2_with fail
        refine (HS2.out _).mono ?_
        rintro e V8 ⟨rfl, rfl⟩
        go_wp2_with fail
        refine (HF1.out _ _ HA.out.sl).mono ?_
        rintro e V9 ⟨rfl, hb⟩
        have HAn := hide (HA.out.below hb)
        have HBn := hide (HB.out.below hb)
        have HLn := hide (HL.out.trans (hb.mono HL.out.size))
        clear x0 x1 x2 x3 x4 lx y0 y1 y2 y3 y4 ly
        clear HA HB HL hb
        have HA := HAn
        have HB := HBn
        have HL := HLn
        clear HAn HBn HLn
        obtain ⟨x0, x1, x2, x3, x4⟩ := HA.out.box.cells
        have lx := HA.out.lt
        obtain ⟨y0, y1, y2, y3, y4⟩ := HB.out.box.cells
        have ly := HB.out.lt
        go_wp2_with fail
        refine (HF2.out _ _ HB.out.sl).mono ?_
        rintro e V10 ⟨rfl, hb⟩
        have HAn := hide (HA.out.below hb)
        have HBn := hide (HB.out.below hb)
        have HLn := hide (HL.out.trans (hb.mono HL.out.size))
        clear x0 x1 x2 x3 x4 lx y0 y1 y2 y3 y4 ly
        clear HA HB HL hb
        have HA := HAn
        have HB := HBn
        have HL := HLn
        clear HAn HBn HLn
        obtain ⟨x0, x1, x2, x3, x4⟩ := HA.out.box.cells
        have lx := HA.out.lt
        obtain ⟨y0, y1, y2, y3, y4⟩ := HB.out.box.cells
        have ly := HB.out.lt
        go_wp2_with fail
        go_ret
        exact ⟨rfl, HL.out⟩
      | false =>
        have hne : S ≠ X := fun h => by have := HEQ.out.2 (HTX.out hS hX h); cases this
        have q0 : ¬ S.toList = [] := fun h => hS (toList_inj (h.trans (by simp [ByteArray.toList_eq])))
        have q1 : (S.toList == []) = false := beq_eq_false_iff_ne.2 q0
        have q9 : (S.toList == X.toList) = false := beq_eq_false_iff_ne.2 (fun h => hne (toList_inj h))
        have q8 : ¬ X.toList = [] := fun h => hX (toList_inj (h.trans (by simp [ByteArray.toList_eq])))
        have q7 : (X.toList == []) = false := beq_eq_false_iff_ne.2 q8
        obtain ⟨x0, x1, x2, x3, x4⟩ := HA.out.box.cells
        have lx := HA.out.lt
        obtain ⟨y0, y1, y2, y3, y4⟩ := HB.out.box.cells
        have ly := HB.out.lt
        go_wp2_with fail
        refine (HI1.out _ _ _ HA.out.own HB.out.own).mono ?_
        rintro e V1 ⟨rfl, hb⟩
        have HAn := hide (HA.out.below hb)
        have HBn := hide (HB.out.below hb)
        have HLn := hide (HL.out.trans (hb.mono HL.out.size))
        clear x0 x1 x2 x3 x4 lx y0 y1 y2 y3 y4 ly
        clear HA HB HL hb
        have HA := HAn
        have HB := HBn
        have HL := HLn
        clear HAn HBn HLn
        obtain ⟨x0, x1, x2, x3, x4⟩ := HA.out.box.cells
        have lx := HA.out.lt
        obtain ⟨y0, y1, y2, y3, y4⟩ := HB.out.box.cells
        have ly := HB.out.lt
        go_wp2_with fail
        refine (HM1.out _ _ _ HA.out.sl HB.out.sl).mono ?_
        rintro e V2 ⟨rfl, hb⟩
        have HAn := hide (HA.out.below hb)
        have HBn := hide (HB.out.below hb)
        have HLn := hide (HL.out.trans (hb.mono HL.out.size))
        clear x0 x1 x2 x3 x4 lx y0 y1 y2 y3 y4 ly
        clear HA HB HL hb
        have HA := HAn
        have HB := HBn
        have HL := HLn
        clear HAn HBn HLn
        obtain ⟨x0, x1, x2, x3, x4⟩ := HA.out.box.cells
        have lx := HA.out.lt
        obtain ⟨y0, y1, y2, y3, y4⟩ := HB.out.box.cells
        have ly := HB.out.lt
        go_wp2_with fail
        refine (HI2.out _ _ _ HB.out.own HA.out.own).mono ?_
        rintro e V3 ⟨rfl, hb⟩
        have HAn := hide (HA.out.below hb)
        have HBn := hide (HB.out.below hb)
        have HLn := hide (HL.out.trans (hb.mono HL.out.size))
        clear x0 x1 x2 x3 x4 lx y0 y1 y2 y3 y4 ly
        clear HA HB HL hb
        have HA := HAn
        have HB := HBn
        have HL := HLn
        clear HAn HBn HLn
        obtain ⟨x0, x1, x2, x3, x4⟩ := HA.out.box.cells
        have lx := HA.out.lt
        obtain ⟨y0, y1, y2, y3, y4⟩ := HB.out.box.cells
        have ly := HB.out.lt
        go_wp2_with fail
        refine (HI3.out _ _ _ HA.out.own HA.out.own).mono ?_
        rintro e V4 ⟨rfl, hb⟩
        have HAn := hide (HA.out.below hb)
        have HBn := hide (HB.out.below hb)
        have HLn := hide (HL.out.trans (hb.mono HL.out.size))
        clear x0 x1 x2 x3 x4 lx y0 y1 y2 y3 y4 ly
        clear HA HB HL hb
        have HA := HAn
        have HB := HBn
        have HL := HLn
        clear HAn HBn HLn
        obtain ⟨x0, x1, x2, x3, x4⟩ := HA.out.box.cells
        have lx := HA.out.lt
        obtain ⟨y0, y1, y2, y3, y4⟩ := HB.out.box.cells
        have ly := HB.out.lt
        go_wp2_with fail
        refine (HR1.out _).mono ?_
        rintro e V5 ⟨rfl, rfl⟩
        go_wp2_with fail
        refine (HR2.out _).mono ?_
        rintro e V6 ⟨rfl, rfl⟩
        go_wp2_with fail
        refine (HS1.out _).mono ?_
        rintro e V7 ⟨rfl, rfl⟩
        go_wp2_with fail
        refine (HS2.out _).mono ?_
        rintro e V8 ⟨rfl, rfl⟩
        go_wp2_with fail
        refine (HF1.out _ _ HA.out.sl).mono ?_
        rintro e V9 ⟨rfl, hb⟩
        have HAn := hide (HA.out.below hb)
        have HBn := hide (HB.out.below hb)
        have HLn := hide (HL.out.trans (hb.mono HL.out.size))
        clear x0 x1 x2 x3 x4 lx y0 y1 y2 y3 y4 ly
        clear HA HB HL hb
        have HA := HAn
        have HB := HBn
        have HL := HLn
        clear HAn HBn HLn
        obtain ⟨x0, x1, x2, x3, x4⟩ := HA.out.box.cells
        have lx := HA.out.lt
        obtain ⟨y0, y1, y2, y3, y4⟩ := HB.out.box.cells
        have ly := HB.out.lt
        go_wp2_with fail
        refine (HF2.out _ _ HB.out.sl).mono ?_
        rintro e V10 ⟨rfl, hb⟩
        have HAn := hide (HA.out.below hb)
        have HBn := hide (HB.out.below hb)
        have HLn := hide (HL.out.trans (hb.mono HL.out.size))
        clear x0 x1 x2 x3 x4 lx y0 y1 y2 y3 y4 ly
        clear HA HB HL hb
        have HA := HAn
        have HB := HBn
        have HL := HLn
        clear HAn HBn HLn
        obtain ⟨x0, x1, x2, x3, x4⟩ := HA.out.box.cells
        have lx := HA.out.lt
        obtain ⟨y0, y1, y2, y3, y4⟩ := HB.out.box.cells
        have ly := HB.out.lt
        go_wp2_with fail
        go_ret
        exact ⟨rfl, HL.out⟩

theorem geq2_walk (w : World) (sv : Value) (l : List Nat) (hs : SlG elY w sv l) : Calls Tryd.prog 3 #[sv] w fun e w' => e = .returned (.bool true) ∧ Below w.heap.size w w' := by
  obtain ⟨a, c, rfl, h1, h2, h3⟩ := hs
  by_cases h : l.length ≤ 1048576
  · exact geq2_small w a c l ⟨a, c, rfl, h1, h2, h3⟩ h
  · exact geq2_big w a l.length c (by omega)
end Go.Proofs.YtfppglfajbmapaaDoor

/- Arguments that are slices of any elements, opened. -/
namespace Go.Proofs.YtfppglfajbmapaaDoor
open Go.ChangeShapes Go.WideShapes Go.RowKit

section
variable {H : Type} {enc : TypeId × Value → H} {W : World} {sp : Nat → Bool}

theorem add_place (a : Addr) (i : Nat) (v : Value) (h : W.cell? (a.add i) = some v) : (a.add i) = ⟨a.block, a.off + i, none⟩ := by
  obtain ⟨b, o, s⟩ := a
  by_cases hi : i = 0
  · subst hi
    simp only [Addr.add, if_pos] at h ⊢
    cases s with
    | none => rfl
    | some t =>
      exfalso
      simp only [World.cell?] at h
      split at h <;> simp at h
  · simp [Addr.add, hi]

theorem open_rows {α : Type} {E : El α} (hst : 0 < E.st) {ts te : TypeId} (hu : Tryd.prog.underlying ts = some (.slice te)) (hc : Tryd.prog.cellsOf te = E.st)
    (hel : ∀ (fuel : Nat) (cs : List Value) (x : DataW H × List MemPlace), DataW.trod enc Tryd.prog W 0 sp true fuel te cs = some x → cs.length = E.st → ∀ b o, (∀ k, k < E.st → W.cell? ⟨b, o + k, none⟩ = cs[k]?) → ∃ y, E.P W b o y)
    {fuel : Nat} {sv : Value} {x : DataW H × List MemPlace} (h : DataW.trod enc Tryd.prog W 0 sp true fuel ts [sv] = some x) : ∃ l, SlG E W sv l := by
  rcases DataW.trod_slice hu h with ⟨h0, -⟩ | ⟨a, len, cap, elems, rest, n, rfl, h0, -, -, hl, hm, hlen, hel', -, -⟩
  · simp only [List.cons.injEq, and_true] at h0
    exact ⟨[], h0 ▸ SlG.nil⟩
  · simp only [List.cons.injEq, and_true] at h0
    subst h0
    rw [hc] at hel'
    have one : ∀ i, i < len → (i = 0 → a = ⟨a.block, a.off, none⟩) ∧ ∃ y, E.P W a.block (a.off + i * E.st) y := by
      intro i hi
      have key := hel' i hi
      rw [List.getElem?_eq_getElem (by omega)] at key
      obtain ⟨cs', h1, h2⟩ := Option.bind_eq_some_iff.1 key
      obtain ⟨-, hl6, hat⟩ := World.cells?_some h1
      have a0 := hat 0 hst
      rw [List.getElem?_eq_getElem (by omega)] at a0
      have e := add_place a (i * E.st) _ (show W.cell? (a.add (i * E.st)) = some cs'[0] by simpa [Addr.add] using a0)
      refine ⟨?_, hel n cs' _ h2 hl6 _ _ (fun k hk => ?_)⟩
      · rintro rfl
        simpa [Addr.add] using e
      · have := hat k hk
        rw [e] at this
        simp only [Addr.add] at this
        split at this
        · rename_i hk0
          subst hk0
          exact this
        · exact this
    have down : ∀ j, j ≤ len → ∃ g : List α, g.length = j ∧ RowG E W a.block (a.off + (len - j) * E.st) g := by
      intro j
      induction j with
      | zero => intro _; exact ⟨[], rfl, trivial⟩
      | succ j ihj =>
        intro hj
        obtain ⟨g, hg, hr⟩ := ihj (by omega)
        obtain ⟨-, y, hy⟩ := one (len - (j + 1)) (by omega)
        refine ⟨y :: g, by simp only [List.length_cons]; omega, hy, ?_⟩
        rw [show a.off + (len - (j + 1)) * E.st + E.st = a.off + (len - j) * E.st by rw [show len - j = (len - (j + 1)) + 1 by omega, Nat.succ_mul, Nat.add_assoc]]
        exact hr
    obtain ⟨f, hf, hr⟩ := down len (Nat.le_refl _)
    refine ⟨f, some a, cap, by rw [hf], by omega, hm, ?_⟩
    cases f with
    | nil => exact Or.inl rfl
    | cons y rest' =>
      right
      simp only [List.length_cons] at hf
      obtain ⟨ha, -⟩ := one 0 (by omega)
      refine ⟨a.block, a.off, by rw [← ha rfl], ?_⟩
      simpa using hr

end
end Go.Proofs.YtfppglfajbmapaaDoor

/- An argument that is a row of bytes, opened. -/
namespace Go.Proofs.YtfppglfajbmapaaDoor
open Go.ChangeShapes Go.WideShapes Go.RowKit

section
variable {H : Type} {enc : TypeId × Value → H} {W : World} {sp : Nat → Bool}

theorem cells_u8 : Tryd.prog.cellsOf ( /- t -/ 5) = elY.st := by kernel_rfl
theorem open_bytes {v : Value} {d : DataW H} {p : List MemPlace} {ts : TypeId} (hu : Tryd.prog.underlying ts = some (.slice ( /- t -/ 5))) (hv : ∃ a len cap, v = .slice a len cap)
    (h : DataW.Trod enc Tryd.prog W 0 sp true ts v d p) : ∃ l, SlG elY W v l := by
  obtain ⟨fuel, hf⟩ := h
  obtain ⟨a, len, cap, rfl⟩ := hv
  refine open_rows (E := elY) (by decide) hu cells_u8 (fun fuel cs x hx hl b o hcell => ?_) hf
  obtain ⟨n, rfl, rfl, hw⟩ := DataW.trod_int (k := .u8) (show Tryd.prog.underlying ( /- t -/ 5) = some (.int .u8) by kernel_rfl) hx
  have hb : 0 ≤ n ∧ n < 256 := by
    simp [Lit.wf, IntKind.min, IntKind.max, IntKind.bits, IntKind.signed] at hw
    omega
  obtain ⟨m, rfl⟩ : ∃ m : Nat, n = (m : Int) := ⟨n.toNat, by omega⟩
  exact ⟨m, by omega, hcell 0 (by decide)⟩
end
end Go.Proofs.YtfppglfajbmapaaDoor
