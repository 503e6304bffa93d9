/- ParseLocal of the program. -/
import Derived.Test.YtbonmdkfmgahbaaPk
import Derived.Test.YtbonmdkfmgahbaaLLv
namespace Go.Proofs.Ytbonmdkfmgahbaa.Lo.Ne
open Go.RowKit

theorem rl_all : ∀ n, RlAt n := by
  intro n
  induction n using Nat.strongRecOn with
  | _ n ih =>
    cases n with
    | zero => intro w c s h; omega
    | succ n =>
      intro w c s hn hs hr
      cases h46 : nxC s 46 with
      | true => exact rl_dot n w c s hs hr h46
      | false =>
        cases h35 : nxC s 35 with
        | true => exact rl_hash n w c s hs hr h46 h35
        | false =>
          cases h64 : nxC s 64 with
          | true => exact rl_at n (ih n (by omega)) w c s hn hs hr h46 h35 h64
          | false => exact rl_action n (fun k hk => ih k (by omega)) w c s hn hs hr h46 h35 h64

/-- What a text says. -/
def resL (s : List UInt8) : Option Nd :=
  match rl (s.length + 1) s with
  | some (N, []) => if okN N.k N.fr N.ix N.kids = true then some N else none
  | _ => none
theorem resL_some {s : List UInt8} {N : Nd} (h : rl (s.length + 1) s = some (N, [])) (hk : okN N.k N.fr N.ix N.kids = true) : resL s = some N := by
  unfold resL
  rw [h]
  simp only
  rw [if_pos hk]
theorem resL_bad {s : List UInt8} {N : Nd} (h : rl (s.length + 1) s = some (N, [])) (hk : okN N.k N.fr N.ix N.kids = false) : resL s = none := by
  unfold resL
  rw [h]
  simp only
  rw [if_neg (by rw [hk]; decide)]
theorem resL_left {s : List UInt8} {N : Nd} {b : UInt8} {t : List UInt8} (h : rl (s.length + 1) s = some (N, b :: t)) : resL s = none := by
  unfold resL
  rw [h]
theorem resL_fail {s : List UInt8} (h : rl (s.length + 1) s = none) : resL s = none := by
  unfold resL
  rw [h]
/-- What a text says is the tree whose text it is. -/
theorem resL_iff (s : List UInt8) (N : Nd) : resL s = some N ↔ (okN N.k N.fr N.ix N.kids = true ∧ digN N = true ∧ s = bl (txN N.k N.fr N.ix N.kids)) := by
  constructor
  · intro h
    unfold resL at h
    split at h
    · rename_i M hM
      split at h
      · rename_i hk
        injection h with h
        subst h
        have hv := hk
        unfold okN at hv
        simp only [Bool.and_eq_true] at hv
        have := (snd_all _).1 _ _ _ hM 0 0 40 (by omega) hv.1
        rw [List.append_nil] at this
        exact ⟨hk, this.2, this.1⟩
      · cases h
    · cases h
  · rintro ⟨hk, hd, rfl⟩
    have hv := hk
    unfold okN at hv
    simp only [Bool.and_eq_true] at hv
    refine resL_some ?_ hk
    have := back_node (back_all N.kids) (k := N.k) (fr := N.fr) (ix := N.ix) (b := 0) (u := 0) (d := 40) (by omega) hv.1 hd ((bl (txN N.k N.fr N.ix N.kids)).length + 1) [] (by simp)
    rw [List.append_nil] at this
    exact this
theorem resL_size {s : List UInt8} {N : Nd} (h : resL s = some N) : s.length ≤ 2000 := by
  obtain ⟨hk, hd, rfl⟩ := (resL_iff s N).1 h
  unfold okN at hk
  simp only [Bool.and_eq_true, decide_eq_true_eq] at hk
  have := txN_size (by omega) (by omega) (by omega) hk.1
  rw [bl_length]
  omega

def outL (s : List UInt8) : Nd := (resL s).getD ⟨0, ⟨#[]⟩, 0, .nil⟩
/-- What ParseLocal owes: a node in new memory and a flag. -/
def PlPost (s : List UInt8) (w : World) (e : Ending) (w' : World) : Prop :=
  ∃ u bs, e = .returned (.tuple #[.agg #[.int .i64 (outL s).k, .string (outL s).fr, .int .i64 (outL s).ix, u], .bool (resL s).isSome]) ∧ Ow w' u (outL s).kids bs ∧ (∀ b, b ∈ bs → w.heap.size ≤ b) ∧ bs.Nodup ∧ Below w.heap.size w w'
theorem pl_no {s : List UInt8} (h : resL s = none) {w w' : World} (hb : Below w.heap.size w w') : PlPost s w (.returned (.tuple #[.agg #[.int .i64 0, .string ⟨#[]⟩, .int .i64 0, .slice none 0 0], .bool false])) w' := by
  unfold PlPost outL
  rw [h]
  exact ⟨_, [], rfl, ⟨none, 0, rfl, Nat.le_refl _, Nat.zero_le _, Or.inl ⟨rfl, rfl⟩⟩, fun _ h => absurd h (List.not_mem_nil), List.nodup_nil, hb⟩
theorem pl_yes {s : List UInt8} {N : Nd} (h : resL s = some N) {w w' : World} {u : Value} {bs : List Nat} (how : Ow w' u N.kids bs) (hge : ∀ b, b ∈ bs → w.heap.size ≤ b) (hnd : bs.Nodup) (hb : Below w.heap.size w w') :
    PlPost s w (.returned (.tuple #[.agg #[.int .i64 N.k, .string N.fr, .int .i64 N.ix, u], .bool true])) w' := by
  unfold PlPost outL
  rw [h]
  exact ⟨u, bs, rfl, how, hge, hnd, hb⟩
theorem below_set4 {B b : Nat} {w w' : World} (h : Below B w w') (hb : B ≤ b) (u0 u1 u2 u3 : Value) : Below B w ((((w'.setCell ⟨b, 0, none⟩ u0).setCell ⟨b, 1, none⟩ u1).setCell ⟨b, 2, none⟩ u2).setCell ⟨b, 3, none⟩ u3) :=
  (((h.setCell (p := ⟨b, 0, none⟩) hb u0).setCell (p := ⟨b, 1, none⟩) hb u1).setCell (p := ⟨b, 2, none⟩) hb u2).setCell (p := ⟨b, 3, none⟩) hb u3

set_option maxHeartbeats 1600000 in
set_option maxRecDepth 100000 in
/-- ParseLocal of the program. -/
theorem implParseL (w : World) (s : List UInt8) (hs : s.length ≤ 1048576) :
    Calls Try.prog 7 #[.string (bs s)] w (PlPost s w) := by
  have hsz : (bs s).size = s.length := by simp [bs, ByteArray.size]
  by_cases h2000 : s.length ≤ 2000
  case neg =>
    have HN := hide (show resL s = none by
      cases h : resL s with
      | none => rfl
      | some N => exact absurd (resL_size h) h2000)
    have hgt : (2000 : Int) < (((bs s).size : Nat) : Int) := by rw [hsz]; omega
    clear h2000 hsz
    go_enter Try.func7, Try.ntmps7
    go_wp2_with fail
    refine bodyPost_ret (v := .tuple #[.agg #[.int .i64 0, .string ⟨#[]⟩, .int .i64 0, .slice none 0 0], .bool false]) (by simp [results, Try.results7, go_sem, *]) rfl ?_
    exact pl_no HN.out (alloc_below w _)
  case pos =>
    have hgt : ¬ (2000 : Int) < (((bs s).size : Nat) : Int) := by rw [hsz]; omega
    clear hsz
    go_enter Try.func7, Try.ntmps7
    go_wp2_with fail
    have hx := Box4.now w (.int .i64 0) (.string ⟨#[]⟩) (.int .i64 0) (.slice none 0 0) ( /- t -/ 24)
    have hb2 : Below w.heap.size w ((w.alloc (.cells #[.int .i64 0, .string ⟨#[]⟩, .int .i64 0, .slice none 0 0] ( /- t -/ 24))).alloc (.cells #[.string (bs s)] ( /- t -/ 53))) := (alloc_below w _).alloc (by simp) _
    have HX := hide (hx.below (alloc_below _ (.cells #[.string (bs s)] ( /- t -/ 53))))
    have HR : Hid (Rd ((w.alloc (.cells #[.int .i64 0, .string ⟨#[]⟩, .int .i64 0, .slice none 0 0] ( /- t -/ 24))).alloc (.cells #[.string (bs s)] ( /- t -/ 53))) (w.heap.size + 1) s) := by
      have h := heap_alloc_new (w.alloc (.cells #[.int .i64 0, .string ⟨#[]⟩, .int .i64 0, .slice none 0 0] ( /- t -/ 24))) (.cells #[.string (bs s)] ( /- t -/ 53))
      exact ⟨_, by simpa using h⟩
    generalize (w.alloc (.cells #[.int .i64 0, .string ⟨#[]⟩, .int .i64 0, .slice none 0 0] ( /- t -/ 24))).alloc (.cells #[.string (bs s)] ( /- t -/ 53)) = W at *
    clear hx
    have hWl := HX.out.lt
    refine (rl_all (s.length + 1) W (w.heap.size + 1) s (Nat.lt_succ_self _) hs HR.out).mono ?_
    intro e w1 hp
    have hx1 := box4_only HX.out hp.1 (by omega)
    have HB1 := hide (hb2.trans (hp.1.to_below (B := w.heap.size) (by omega) hb2.size))
    have hWs := hp.1.size
    obtain ⟨y0, y1, y2, y3⟩ := hx1.cells
    have fy := box4_frozen hx1
    have ly := hx1.lt
    clear hb2 hgt
    cases hq : rl (s.length + 1) s with
    | none =>
      obtain ⟨k, fr, ix, a, m, cp, rfl⟩ := hp.2.2 hq
      have HN := hide (resL_fail hq)
      clear hp hq hx1
      go_wp2_with fail
      refine bodyPost_ret (v := .tuple #[.agg #[.int .i64 0, .string ⟨#[]⟩, .int .i64 0, .slice none 0 0], .bool false]) (by simp [results, Try.results7, go_sem, *]) rfl ?_
      exact pl_no HN.out ((below_set4 HB1.out (Nat.le_refl _) _ _ _ _).alloc (by simp; omega) _)
    | some q =>
      obtain ⟨N, t⟩ := q
      obtain ⟨u, bs2, rfl, how, hge, hnd, hr1⟩ := hp.2.1 N t hq
      obtain ⟨ua, uc, rfl⟩ := how.val
      have hwl := how.lt
      cases t with
      | cons b t =>
        have HN := hide (resL_left hq)
        have he := bs_full b t
        have hc := hr1.cell
        have hcl := hr1.lt
        clear hp hq hx1
        go_wp2_with fail
        refine bodyPost_ret (v := .tuple #[.agg #[.int .i64 0, .string ⟨#[]⟩, .int .i64 0, .slice none 0 0], .bool false]) (by simp [results, Try.results7, go_sem, *]) rfl ?_
        exact pl_no HN.out ((below_set4 HB1.out (Nat.le_refl _) _ _ _ _).alloc (by simp; omega) _)
      | nil =>
        have he := bs_empty
        have hc := hr1.cell
        have hcl := hr1.lt
        have HOW := hide how
        have HGE := hide hge
        have HND := hide hnd
        have HX1 := hide hx1
        have HQ := hide hq
        clear hp hq hx1 how hge hnd
        go_wp2_with fail
        refine (implValid _ N.k N.ix N.fr (.slice ua N.kids.len uc) N.kids (HOW.out.sl.still (Still.of_below (alloc_below w1 _)))).mono ?_
        rintro e w2 ⟨rfl, hb⟩
        have hb12 := alloc_then hb
        have hbx := (Box4.now w1 (.int .i64 N.k) (.string N.fr) (.int .i64 N.ix) (.slice ua N.kids.len uc) ( /- t -/ 24)).below hb
        obtain ⟨z0, z1, z2, z3⟩ := hbx.cells
        have zl := hbx.lt
        have hx2 := HX1.out.below hb12
        obtain ⟨x0, x1, x2, x3⟩ := hx2.cells
        have fx := box4_frozen hx2
        have lx := hx2.lt
        have HB2 := hide (HB1.out.trans (hb12.mono (by omega)))
        have HOW2 := hide (HOW.out.same (Same.of_below hb12 HOW.out.lt))
        clear hb hbx hx2 y0 y1 y2 y3 fy ly hwl
        cases hk : okN N.k N.fr N.ix N.kids with
        | false =>
          have HN := hide (resL_bad HQ.out hk)
          clear hk
          go_wp2_with fail
          refine bodyPost_ret (v := .tuple #[.agg #[.int .i64 0, .string ⟨#[]⟩, .int .i64 0, .slice none 0 0], .bool false]) (by simp [results, Try.results7, go_sem, *]) rfl ?_
          exact pl_no HN.out (below_set4 HB2.out (Nat.le_refl _) _ _ _ _)
        | true =>
          have HN := hide (resL_some HQ.out hk)
          clear hk
          go_wp2_with fail
          refine bodyPost_ret (v := .tuple #[.agg #[.int .i64 N.k, .string N.fr, .int .i64 N.ix, .slice ua N.kids.len uc], .bool true]) (by simp [results, Try.results7, go_sem, *]) rfl ?_
          exact pl_yes HN.out (ow_set4 HOW2.out (fun b hb => by have := HGE.out b hb; omega) _ _ _ _) (fun b hb => by have := HGE.out b hb; omega) HND.out (below_set4 HB2.out (Nat.le_refl _) _ _ _ _)
end Go.Proofs.Ytbonmdkfmgahbaa.Lo.Ne
