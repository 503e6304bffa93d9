/- Pl, Pm, Pn, Poa, LMp -/
import Derived.Test.YtgcefippeokmcaaDoorJ03
import Derived.Test.YtgcefippeokmcaaDoorJ05
import Derived.Test.YtgcefippeokmcaaDoorJ02
import Derived.Deep.RegionLawGrows
import Derived.Test.YtgcefippeokmcaaDoorJ00
import Derived.Test.YtgcefippeokmcaaDoorRows
import Derived.Test.YtgcefippeokmcaaDoorProg
import Derived.Maps.Own
import Derived.Maps.OwnOps
import Derived.LaidEqlPtr
import Derived.Laws.StructEq
/- ParseLocal of the program. -/
namespace Go.Proofs.YtgcefippeokmcaaDoor.Lo.Ne
open Go.RowKit

theorem rl_all : ∀ n, RlAt n := by
  intro n
  induction n using Nat.strongRecOn with
  | _ n ih =>
    cases n with
    | zero => intro w c s h; omega
    | succ n =>
      intro w c s hn hs hr
      cases h46 : nxC s 46 with
      | true => exact rl_dot n w c s hs hr h46
      | false =>
        cases h35 : nxC s 35 with
        | true => exact rl_hash n w c s hs hr h46 h35
        | false =>
          cases h64 : nxC s 64 with
          | true => exact rl_at n (ih n (by omega)) w c s hn hs hr h46 h35 h64
          | false => exact rl_action n (fun k hk => ih k (by omega)) w c s hn hs hr h46 h35 h64

/-- What a text says. -/
def resL (s : List UInt8) : Option Nd :=
  match rl (s.length + 1) s with
  | some (N, []) => if okN N.k N.fr N.ix N.kids = true then some N else none
  | _ => none
theorem resL_some {s : List UInt8} {N : Nd} (h : rl (s.length + 1) s = some (N, [])) (hk : okN N.k N.fr N.ix N.kids = true) : resL s = some N := by
  unfold resL
  rw [h]
  simp only
  rw [if_pos hk]
theorem resL_bad {s : List UInt8} {N : Nd} (h : rl (s.length + 1) s = some (N, [])) (hk : okN N.k N.fr N.ix N.kids = false) : resL s = none := by
  unfold resL
  rw [h]
  simp only
  rw [if_neg (by rw [hk]; decide)]
theorem resL_left {s : List UInt8} {N : Nd} {b : UInt8} {t : List UInt8} (h : rl (s.length + 1) s = some (N, b :: t)) : resL s = none := by
  unfold resL
  rw [h]
theorem resL_fail {s : List UInt8} (h : rl (s.length + 1) s = none) : resL s = none := by
  unfold resL
  rw [h]
/-- What a text says is the tree whose text it is. -/
theorem resL_iff (s : List UInt8) (N : Nd) : resL s = some N ↔ (okN N.k N.fr N.ix N.kids = true ∧ digN N = true ∧ s = bl (txN N.k N.fr N.ix N.kids)) := by
  constructor
  · intro h
    unfold resL at h
    split at h
    · rename_i M hM
      split at h
      · rename_i hk
        injection h with h
        subst h
        have hv := hk
        unfold okN at hv
        simp only [Bool.and_eq_true] at hv
        have := (snd_all _).1 _ _ _ hM 0 0 40 (by omega) hv.1
        rw [List.append_nil] at this
        exact ⟨hk, this.2, this.1⟩
      · cases h
    · cases h
  · rintro ⟨hk, hd, rfl⟩
    have hv := hk
    unfold okN at hv
    simp only [Bool.and_eq_true] at hv
    refine resL_some ?_ hk
    have := back_node (back_all N.kids) (k := N.k) (fr := N.fr) (ix := N.ix) (b := 0) (u := 0) (d := 40) (by omega) hv.1 hd ((bl (txN N.k N.fr N.ix N.kids)).length + 1) [] (by simp)
    rw [List.append_nil] at this
    exact this
theorem resL_size {s : List UInt8} {N : Nd} (h : resL s = some N) : s.length ≤ 2000 := by
  obtain ⟨hk, hd, rfl⟩ := (resL_iff s N).1 h
  unfold okN at hk
  simp only [Bool.and_eq_true, decide_eq_true_eq] at hk
  have := txN_size (by omega) (by omega) (by omega) hk.1
  rw [bl_length]
  omega

def outL (s : List UInt8) : Nd := (resL s).getD ⟨0, ⟨#[]⟩, 0, .nil⟩
/-- What ParseLocal owes: a node in new memory and a flag. -/
def PlPost (s : List UInt8) (w : World) (e : Ending) (w' : World) : Prop :=
  ∃ u bs, e = .returned (.tuple #[.agg #[.int .i64 (outL s).k, .string (outL s).fr, .int .i64 (outL s).ix, u], .bool (resL s).isSome]) ∧ Ow w' u (outL s).kids bs ∧ (∀ b, b ∈ bs → w.heap.size ≤ b) ∧ bs.Nodup ∧ Below w.heap.size w w'
theorem pl_no {s : List UInt8} (h : resL s = none) {w w' : World} (hb : Below w.heap.size w w') : PlPost s w (.returned (.tuple #[.agg #[.int .i64 0, .string ⟨#[]⟩, .int .i64 0, .slice none 0 0], .bool false])) w' := by
  unfold PlPost outL
  rw [h]
  exact ⟨_, [], rfl, ⟨none, 0, rfl, Nat.le_refl _, Nat.zero_le _, Or.inl ⟨rfl, rfl⟩⟩, fun _ h => absurd h (List.not_mem_nil), List.nodup_nil, hb⟩
theorem pl_yes {s : List UInt8} {N : Nd} (h : resL s = some N) {w w' : World} {u : Value} {bs : List Nat} (how : Ow w' u N.kids bs) (hge : ∀ b, b ∈ bs → w.heap.size ≤ b) (hnd : bs.Nodup) (hb : Below w.heap.size w w') :
    PlPost s w (.returned (.tuple #[.agg #[.int .i64 N.k, .string N.fr, .int .i64 N.ix, u], .bool true])) w' := by
  unfold PlPost outL
  rw [h]
  exact ⟨u, bs, rfl, how, hge, hnd, hb⟩
theorem below_set4 {B b : Nat} {w w' : World} (h : Below B w w') (hb : B ≤ b) (u0 u1 u2 u3 : Value) : Below B w ((((w'.setCell ⟨b, 0, none⟩ u0).setCell ⟨b, 1, none⟩ u1).setCell ⟨b, 2, none⟩ u2).setCell ⟨b, 3, none⟩ u3) :=
  (((h.setCell (p := ⟨b, 0, none⟩) hb u0).setCell (p := ⟨b, 1, none⟩) hb u1).setCell (p := ⟨b, 2, none⟩) hb u2).setCell (p := ⟨b, 3, none⟩) hb u3

set_option maxHeartbeats 1600000 in
set_option maxRecDepth 100000 in
/-- ParseLocal of the program. -/
theorem implParseL (w : World) (s : List UInt8) (hs : s.length ≤ 1048576) :
    Calls Tryd.prog 23 #[.string (bs s)] w (PlPost s w) := by
  have hsz : (bs s).size = s.length := by simp [bs, ByteArray.size]
  by_cases h2000 : s.length ≤ 2000
  case neg =>
    have HN := hide (show resL s = none by
      cases h : resL s with
      | none => rfl
      | some N => exact absurd (resL_size h) h2000)
    have hgt : (2000 : Int) < (((bs s).size : Nat) : Int) := by rw [hsz]; omega
    clear h2000 hsz
    go_enter Tryd.func23, Tryd.ntmps23
    go_wp2_with fail
    refine bodyPost_ret (v := .tuple #[.agg #[.int .i64 0, .string ⟨#[]⟩, .int .i64 0, .slice none 0 0], .bool false]) (by simp [results, Tryd.results23, go_sem, *]) rfl ?_
    exact pl_no HN.out (alloc_below w _)
  case pos =>
    have hgt : ¬ (2000 : Int) < (((bs s).size : Nat) : Int) := by rw [hsz]; omega
    clear hsz
    go_enter Tryd.func23, Tryd.ntmps23
    go_wp2_with fail
    have hx := Box4.now w (.int .i64 0) (.string ⟨#[]⟩) (.int .i64 0) (.slice none 0 0) ( /- t -/ 25)
    have hb2 : Below w.heap.size w ((w.alloc (.cells #[.int .i64 0, .string ⟨#[]⟩, .int .i64 0, .slice none 0 0] ( /- t -/ 25))).alloc (.cells #[.string (bs s)] ( /- t -/ 80))) := (alloc_below w _).alloc (by simp) _
    have HX := hide (hx.below (alloc_below _ (.cells #[.string (bs s)] ( /- t -/ 80))))
    have HR : Hid (Rd ((w.alloc (.cells #[.int .i64 0, .string ⟨#[]⟩, .int .i64 0, .slice none 0 0] ( /- t -/ 25))).alloc (.cells #[.string (bs s)] ( /- t -/ 80))) (w.heap.size + 1) s) := by
      have h := heap_alloc_new (w.alloc (.cells #[.int .i64 0, .string ⟨#[]⟩, .int .i64 0, .slice none 0 0] ( /- t -/ 25))) (.cells #[.string (bs s)] ( /- t -/ 80))
      exact ⟨_, by simpa using h⟩
    generalize (w.alloc (.cells #[.int .i64 0, .string ⟨#[]⟩, .int .i64 0, .slice none 0 0] ( /- t -/ 25))).alloc (.cells #[.string (bs s)] ( /- t -/ 80)) = W at *
    clear hx
    have hWl := HX.out.lt
    refine (rl_all (s.length + 1) W (w.heap.size + 1) s (Nat.lt_succ_self _) hs HR.out).mono ?_
    intro e w1 hp
    have hx1 := box4_only HX.out hp.1 (by omega)
    have HB1 := hide (hb2.trans (hp.1.to_below (B := w.heap.size) (by omega) hb2.size))
    have hWs := hp.1.size
    obtain ⟨y0, y1, y2, y3⟩ := hx1.cells
    have fy := box4_frozen hx1
    have ly := hx1.lt
    clear hb2 hgt
    cases hq : rl (s.length + 1) s with
    | none =>
      obtain ⟨k, fr, ix, a, m, cp, rfl⟩ := hp.2.2 hq
      have HN := hide (resL_fail hq)
      clear hp hq hx1
      go_wp2_with fail
      refine bodyPost_ret (v := .tuple #[.agg #[.int .i64 0, .string ⟨#[]⟩, .int .i64 0, .slice none 0 0], .bool false]) (by simp [results, Tryd.results23, go_sem, *]) rfl ?_
      exact pl_no HN.out ((below_set4 HB1.out (Nat.le_refl _) _ _ _ _).alloc (by simp; omega) _)
    | some q =>
      obtain ⟨N, t⟩ := q
      obtain ⟨u, bs2, rfl, how, hge, hnd, hr1⟩ := hp.2.1 N t hq
      obtain ⟨ua, uc, rfl⟩ := how.val
      have hwl := how.lt
      cases t with
      | cons b t =>
        have HN := hide (resL_left hq)
        have he := bs_full b t
        have hc := hr1.cell
        have hcl := hr1.lt
        clear hp hq hx1
        go_wp2_with fail
        refine bodyPost_ret (v := .tuple #[.agg #[.int .i64 0, .string ⟨#[]⟩, .int .i64 0, .slice none 0 0], .bool false]) (by simp [results, Tryd.results23, go_sem, *]) rfl ?_
        exact pl_no HN.out ((below_set4 HB1.out (Nat.le_refl _) _ _ _ _).alloc (by simp; omega) _)
      | nil =>
        have he := bs_empty
        have hc := hr1.cell
        have hcl := hr1.lt
        have HOW := hide how
        have HGE := hide hge
        have HND := hide hnd
        have HX1 := hide hx1
        have HQ := hide hq
        clear hp hq hx1 how hge hnd
        go_wp2_with fail
        refine (implValid _ N.k N.ix N.fr (.slice ua N.kids.len uc) N.kids (HOW.out.sl.still (Still.of_below (alloc_below w1 _)))).mono ?_
        rintro e w2 ⟨rfl, hb⟩
        have hb12 := alloc_then hb
        have hbx := (Box4.now w1 (.int .i64 N.k) (.string N.fr) (.int .i64 N.ix) (.slice ua N.kids.len uc) ( /- t -/ 25)).below hb
        obtain ⟨z0, z1, z2, z3⟩ := hbx.cells
        have zl := hbx.lt
        have hx2 := HX1.out.below hb12
        obtain ⟨x0, x1, x2, x3⟩ := hx2.cells
        have fx := box4_frozen hx2
        have lx := hx2.lt
        have HB2 := hide (HB1.out.trans (hb12.mono (by omega)))
        have HOW2 := hide (HOW.out.same (Same.of_below hb12 HOW.out.lt))
        clear hb hbx hx2 y0 y1 y2 y3 fy ly hwl
        cases hk : okN N.k N.fr N.ix N.kids with
        | false =>
          have HN := hide (resL_bad HQ.out hk)
          clear hk
          go_wp2_with fail
          refine bodyPost_ret (v := .tuple #[.agg #[.int .i64 0, .string ⟨#[]⟩, .int .i64 0, .slice none 0 0], .bool false]) (by simp [results, Tryd.results23, go_sem, *]) rfl ?_
          exact pl_no HN.out (below_set4 HB2.out (Nat.le_refl _) _ _ _ _)
        | true =>
          have HN := hide (resL_some HQ.out hk)
          clear hk
          go_wp2_with fail
          refine bodyPost_ret (v := .tuple #[.agg #[.int .i64 N.k, .string N.fr, .int .i64 N.ix, .slice ua N.kids.len uc], .bool true]) (by simp [results, Tryd.results23, go_sem, *]) rfl ?_
          exact pl_yes HN.out (ow_set4 HOW2.out (fun b hb => by have := HGE.out b hb; omega) _ _ _ _) (fun b hb => by have := HGE.out b hb; omega) HND.out (below_set4 HB2.out (Nat.le_refl _) _ _ _ _)
end Go.Proofs.YtgcefippeokmcaaDoor.Lo.Ne

/- l2Parse of the model: what it owes; an end, a variable. -/
namespace Go.Proofs.YtgcefippeokmcaaDoor.Lo.Ne
open Go.RowKit

def SpPost (T : List UInt8) (r : Option (Nd × List UInt8)) (w : World) (e : Ending) (w' : World) : Prop :=
  Below w.heap.size w w' ∧ (∀ N t, r = some (N, t) → ∃ (q : Nat) (u : Value) (bs : List Nat), q ≤ T.length ∧ t = T.drop q ∧ e = .returned (.tuple #[.agg #[.int .i64 N.k, .string N.fr, .int .i64 N.ix, u], .int .i64 (q : Nat)]) ∧ Ow w' u N.kids bs ∧ (∀ b, b ∈ bs → w.heap.size ≤ b) ∧ bs.Nodup) ∧
  (r = none → ∃ k fr ix a m cp, e = .returned (.tuple #[.agg #[.int .i64 k, .string fr, .int .i64 ix, .slice a m cp], .int .i64 (-1)]))
theorem sp_yes {T t : List UInt8} {r : Option (Nd × List UInt8)} {N : Nd} (h : r = some (N, t)) {w w' : World} {u : Value} {bs : List Nat} {q : Nat} (hq : q ≤ T.length) (ht : t = T.drop q) (hb : Below w.heap.size w w') (how : Ow w' u N.kids bs) (hge : ∀ b, b ∈ bs → w.heap.size ≤ b) (hnd : bs.Nodup) :
    SpPost T r w (.returned (.tuple #[.agg #[.int .i64 N.k, .string N.fr, .int .i64 N.ix, u], .int .i64 (q : Nat)])) w' := by
  refine ⟨hb, fun N' t' h' => ?_, fun h' => by rw [h] at h'; cases h'⟩
  rw [h] at h'
  injection h' with h'
  injection h' with h1 h2
  subst h1 h2
  exact ⟨q, u, bs, hq, ht, rfl, how, hge, hnd⟩
theorem sp_not {T : List UInt8} {r : Option (Nd × List UInt8)} (h : r = none) {w w' : World} {k ix : Int} {fr : ByteArray} {a : Option Addr} {m cp : Nat} (hb : Below w.heap.size w w') :
    SpPost T r w (.returned (.tuple #[.agg #[.int .i64 k, .string fr, .int .i64 ix, .slice a m cp], .int .i64 (-1)])) w' := by
  refine ⟨hb, fun N t h' => ?_, fun _ => ⟨k, fr, ix, a, m, cp, rfl⟩⟩
  rw [h] at h'
  cases h'
def SpAt (d : Nat) : Prop := ∀ (w : World) (T : List UInt8) (p : Nat), T.length ≤ 1048576 → p ≤ T.length →
  Calls Tryd.prog 80 #[.string (bs T), .int .i64 (p : Nat), .int .i64 (d : Nat)] w (SpPost T (sp d (T.drop p)) w)

theorem head_at {T : List UInt8} {p : Nat} (h : p < T.length) : ∃ hin : p < (bs T).size, (bs T)[p]'hin = hdC (T.drop p) ∧ T.drop p = hdC (T.drop p) :: T.drop (p + 1) := by
  refine ⟨by rw [bs_size]; exact h, ?_, ?_⟩
  · rw [List.drop_eq_getElem_cons h]
    rfl
  · conv => lhs; rw [List.drop_eq_getElem_cons h]
    rw [List.drop_eq_getElem_cons h]
    rfl

set_option maxHeartbeats 1600000 in
set_option maxRecDepth 100000 in
theorem sp_out (d : Nat) (hd : d ≤ 40) (w : World) (T : List UInt8) (p : Nat) (h : d = 0 ∨ p = T.length) :
    Calls Tryd.prog 80 #[.string (bs T), .int .i64 (p : Nat), .int .i64 (d : Nat)] w (SpPost T (sp d (T.drop p)) w) := by
  have hsz : (bs T).size = T.length := bs_size T
  have HN : Hid (sp d (T.drop p) = none) := by
    unfold Hid
    rcases h with rfl | rfl
    · rfl
    · rw [List.drop_length]
      cases d <;> rfl
  generalize sp d (T.drop p) = r at *
  by_cases hd0 : d = 0
  · subst hd0
    clear h
    go_enter Tryd.func80, Tryd.ntmps80
    go_wp2_with fail
    refine bodyPost_ret (v := .tuple #[.agg #[.int .i64 0, .string ⟨#[]⟩, .int .i64 0, .slice none 0 0], .int .i64 (-1)]) (by simp [results, Tryd.results80, go_sem, *]) rfl ?_
    exact sp_not HN.out (alloc_below w _)
  · obtain rfl : p = T.length := by omega
    have h1 : ¬ (d : Int) < 1 := by omega
    clear h hd0
    go_enter Tryd.func80, Tryd.ntmps80
    go_wp2_with fail
    refine bodyPost_ret (v := .tuple #[.agg #[.int .i64 0, .string ⟨#[]⟩, .int .i64 0, .slice none 0 0], .int .i64 (-1)]) (by simp [results, Tryd.results80, go_sem, *]) rfl ?_
    exact sp_not HN.out (alloc_below w _)

set_option maxHeartbeats 1600000 in
set_option maxRecDepth 100000 in
theorem sp_dot (d : Nat) (hd : d ≤ 40) (w : World) (T : List UInt8) (p : Nat) (hT : T.length ≤ 1048576) (hp : p < T.length) (hc : hdC (T.drop p) = 46) :
    Calls Tryd.prog 80 #[.string (bs T), .int .i64 (p : Nat), .int .i64 ((d + 1 : Nat) : Int)] w (SpPost T (sp (d + 1) (T.drop p)) w) := by
  have hsz : (bs T).size = T.length := bs_size T
  obtain ⟨hin, hget, hdr⟩ := head_at hp
  have HS : Hid (sp (d + 1) (T.drop p) = some (ndEnd, T.drop (p + 1))) := by
    unfold Hid
    rw [hdr, hc]
    rfl
  have hlt : (p : Int) < (T.length : Int) := by omega
  have hcb : (((bs T)[p]'hin).toNat : Int) = 46 := by rw [hget, hc]; rfl
  have h1 : ¬ ((d + 1 : Nat) : Int) < 1 := by omega
  clear hget hdr hc
  generalize sp (d + 1) (T.drop p) = r at *
  go_enter Tryd.func80, Tryd.ntmps80
  go_wp2_with fail
  refine bodyPost_ret (v := .tuple #[.agg #[.int .i64 1, .string ⟨#[]⟩, .int .i64 0, .slice none 0 0], .int .i64 ((p + 1 : Nat) : Int)]) (by simp [results, Tryd.results80, go_sem, *]) rfl ?_
  exact sp_yes (N := ndEnd) (bs := []) HS.out (by omega) rfl (alloc_below w _) ⟨none, 0, rfl, Nat.le_refl _, Nat.zero_le _, Or.inl ⟨rfl, rfl⟩⟩ (fun _ h => absurd h (List.not_mem_nil)) List.nodup_nil

set_option maxHeartbeats 1600000 in
set_option maxRecDepth 100000 in
theorem sp_hash (d : Nat) (hd : d ≤ 40) (w : World) (T : List UInt8) (p : Nat) (hT : T.length ≤ 1048576) (hp : p + 1 < T.length) (hc : hdC (T.drop p) = 35) :
    Calls Tryd.prog 80 #[.string (bs T), .int .i64 (p : Nat), .int .i64 ((d + 1 : Nat) : Int)] w (SpPost T (sp (d + 1) (T.drop p)) w) := by
  have hsz : (bs T).size = T.length := bs_size T
  obtain ⟨hin, hget, hdr⟩ := head_at (show p < T.length by omega)
  obtain ⟨hin1, hget1, hdr1⟩ := head_at hp
  generalize hcc : hdC (T.drop (p + 1)) = c at *
  have HS : Hid (sp (d + 1) (T.drop p) = some (ndVar c, T.drop (p + 2))) := by
    unfold Hid
    rw [hdr, hc, hdr1]
    rfl
  have hlt : (p : Int) < (T.length : Int) := by omega
  have hlt1 : (p : Int) + 1 < (T.length : Int) := by omega
  have hcb : (((bs T)[p]'hin).toNat : Int) = 35 := by rw [hget, hc]; rfl
  have h1 : ¬ ((d + 1 : Nat) : Int) < 1 := by omega
  have hc256 := c.toNat_lt
  clear hget hdr hc hdr1 hcc
  generalize sp (d + 1) (T.drop p) = r at *
  go_enter Tryd.func80, Tryd.ntmps80
  go_wp2_with fail
  refine bodyPost_ret (v := .tuple #[.agg #[.int .i64 5, .string ⟨#[]⟩, .int .i64 ((c.toNat : Int) - 48), .slice none 0 0], .int .i64 ((p + 2 : Nat) : Int)]) (by simp [results, Tryd.results80, go_sem, *]) rfl ?_
  exact sp_yes (N := ndVar c) (bs := []) HS.out (by omega) rfl (alloc_below w _) ⟨none, 0, rfl, Nat.le_refl _, Nat.zero_le _, Or.inl ⟨rfl, rfl⟩⟩ (fun _ h => absurd h (List.not_mem_nil)) List.nodup_nil

set_option maxHeartbeats 1600000 in
set_option maxRecDepth 100000 in
/-- No node begins so. -/
theorem sp_other (d : Nat) (hd : d ≤ 40) (w : World) (T : List UInt8) (p : Nat) (hT : T.length ≤ 1048576) (hp : p < T.length) (h46 : hdC (T.drop p) ≠ 46) (h35 : hdC (T.drop p) = 35 → T.length ≤ p + 1) (h64 : hdC (T.drop p) ≠ 64) (h123 : nxC (T.drop (p + 2)) 123 = false) :
    Calls Tryd.prog 80 #[.string (bs T), .int .i64 (p : Nat), .int .i64 ((d + 1 : Nat) : Int)] w (SpPost T (sp (d + 1) (T.drop p)) w) := by
  have hsz : (bs T).size = T.length := bs_size T
  obtain ⟨hin, hget, hdr⟩ := head_at hp
  have hlt : (p : Int) < (T.length : Int) := by omega
  have h1 : ¬ ((d + 1 : Nat) : Int) < 1 := by omega
  have HN : Hid (sp (d + 1) (T.drop p) = none) := by
    unfold Hid
    generalize hc : hdC (T.drop p) = c at *
    rw [sp, hdr, if_neg (by simpa [nxC] using h46), if_neg (fun h => by simp [nxC] at h; have := h35 h.1; omega), if_neg (by simpa [nxC] using h64)]
    rw [show (c :: T.drop (p + 1)).tail.tail = T.drop (p + 2) by simp [List.tail_drop], if_neg (by rw [h123]; decide)]
  have hcb : (((bs T)[p]'hin).toNat : Int) ≠ 46 := by rw [hget]; exact fun h => h46 (UInt8.toNat_inj.1 (by show _ = 46; omega))
  have hcd : (((bs T)[p]'hin).toNat : Int) ≠ 64 := by rw [hget]; exact fun h => h64 (UInt8.toNat_inj.1 (by show _ = 64; omega))
  by_cases h35' : hdC (T.drop p) = 35
  · have hl := h35 h35'
    have hce : (((bs T)[p]'hin).toNat : Int) = 35 := by rw [hget, h35']; rfl
    have hl1 : ¬ (p : Int) + 1 < (T.length : Int) := by omega
    have hl2 : ¬ (p : Int) + 2 < (T.length : Int) := by omega
    clear hget hdr h46 h35 h64 h123 h35' hcb hcd
    generalize sp (d + 1) (T.drop p) = r at *
    go_enter Tryd.func80, Tryd.ntmps80
    go_wp2_with fail
    refine bodyPost_ret (v := .tuple #[.agg #[.int .i64 0, .string ⟨#[]⟩, .int .i64 0, .slice none 0 0], .int .i64 (-1)]) (by simp [results, Tryd.results80, go_sem, *]) rfl ?_
    exact sp_not HN.out (alloc_below w _)
  have hce : (((bs T)[p]'hin).toNat : Int) ≠ 35 := by rw [hget]; exact fun h => h35' (UInt8.toNat_inj.1 (by show _ = 35; omega))
  by_cases hl : T.length ≤ p + 2
  · have hl2 : ¬ (p : Int) + 2 < (T.length : Int) := by omega
    clear hget hdr h46 h35 h64 h123 h35'
    generalize sp (d + 1) (T.drop p) = r at *
    go_enter Tryd.func80, Tryd.ntmps80
    go_wp2_with fail
    refine bodyPost_ret (v := .tuple #[.agg #[.int .i64 0, .string ⟨#[]⟩, .int .i64 0, .slice none 0 0], .int .i64 (-1)]) (by simp [results, Tryd.results80, go_sem, *]) rfl ?_
    exact sp_not HN.out (alloc_below w _)
  · obtain ⟨hin2, hget2, hdr2⟩ := head_at (show p + 2 < T.length by omega)
    have hl2 : (p : Int) + 2 < (T.length : Int) := by omega
    have hcf : (((bs T)[p + 2]'hin2).toNat : Int) ≠ 123 := by
      rw [hget2]
      intro h
      have : hdC (T.drop (p + 2)) = 123 := UInt8.toNat_inj.1 (by show _ = 123; omega)
      rw [hdr2, this] at h123
      cases h123
    clear hget hdr h46 h35 h64 h123 h35' hget2 hdr2
    generalize sp (d + 1) (T.drop p) = r at *
    go_enter Tryd.func80, Tryd.ntmps80
    go_wp2_with fail
    refine bodyPost_ret (v := .tuple #[.agg #[.int .i64 0, .string ⟨#[]⟩, .int .i64 0, .slice none 0 0], .int .i64 (-1)]) (by simp [results, Tryd.results80, go_sem, *]) rfl ?_
    exact sp_not HN.out (alloc_below w _)
end Go.Proofs.YtgcefippeokmcaaDoor.Lo.Ne

/- l2Parse of the model: a recursion. -/
namespace Go.Proofs.YtgcefippeokmcaaDoor.Lo.Ne
open Go.RowKit

theorem sp_fit (d : Nat) (s : List UInt8) (N : Nd) (t : List UInt8) (h : sp d s = some (N, t)) : FitN N := by
  cases d with
  | zero => cases h
  | succ d =>
    rw [sp] at h
    split at h
    · injection h with h
      injection h with h1 h2
      subst h1
      exact ⟨Nat.zero_le 1, rfl, rfl⟩
    split at h
    · injection h with h
      injection h with h1 h2
      subst h1
      have := (hdC s.tail).toNat_lt
      exact ⟨Nat.zero_le 1, rfl, WalkArith.wf_i64 (show -9223372036854775808 ≤ ((hdC s.tail).toNat : Int) - 48 ∧ ((hdC s.tail).toNat : Int) - 48 ≤ 9223372036854775807 by omega)⟩
    split at h
    · split at h
      · injection h with h
        injection h with h1 h2
        subst h1
        exact ⟨Nat.zero_le 1, rfl, rfl⟩
      · cases h
    split at h
    · split at h
      · injection h with h
        injection h with h1 h2
        subst h1
        refine ⟨Nat.le_refl 1, ?_, rfl⟩
        simp only
        split <;> rfl
      · cases h
    · cases h

set_option maxHeartbeats 1600000 in
set_option maxRecDepth 100000 in
theorem sp_at (d : Nat) (hd : d ≤ 40) (ih : SpAt d) (w : World) (T : List UInt8) (p : Nat) (hT : T.length ≤ 1048576) (hp : p < T.length) (hc : hdC (T.drop p) = 64) :
    Calls Tryd.prog 80 #[.string (bs T), .int .i64 (p : Nat), .int .i64 ((d + 1 : Nat) : Int)] w (SpPost T (sp (d + 1) (T.drop p)) w) := by
  have hsz : (bs T).size = T.length := bs_size T
  obtain ⟨hin, hget, hdr⟩ := head_at hp
  have hlt : (p : Int) < (T.length : Int) := by omega
  have hcb : (((bs T)[p]'hin).toNat : Int) = 64 := by rw [hget, hc]; rfl
  have h1 : ¬ ((d + 1 : Nat) : Int) < 1 := by omega
  have HR : Hid (sp (d + 1) (T.drop p) = (match sp d (T.drop (p + 1)) with | some (N, t) => some (ndRec N, t) | none => none)) := by
    unfold Hid
    rw [hdr, hc]
    rfl
  have HIH := hide (fun w => ih w T (p + 1) hT (by omega))
  have HFI := hide (sp_fit d (T.drop (p + 1)))
  clear hget hdr hc ih
  generalize sp (d + 1) (T.drop p) = r at *
  generalize sp d (T.drop (p + 1)) = r1 at *
  go_enter Tryd.func80, Tryd.ntmps80
  go_wp2_with fail
  have hx := Box4.now w (.int .i64 0) (.string ⟨#[]⟩) (.int .i64 0) (.slice none 0 0) ( /- t -/ 25)
  have hb1 := alloc_below w (.cells #[.int .i64 0, .string ⟨#[]⟩, .int .i64 0, .slice none 0 0] ( /- t -/ 25))
  have hw1 : w.heap.size < (w.alloc (.cells #[.int .i64 0, .string ⟨#[]⟩, .int .i64 0, .slice none 0 0] ( /- t -/ 25))).heap.size := by simp
  generalize w.alloc (.cells #[.int .i64 0, .string ⟨#[]⟩, .int .i64 0, .slice none 0 0] ( /- t -/ 25)) = W at *
  rw [show (p : Int) + 1 = ((p + 1 : Nat) : Int) by omega]
  first
    | rw [show ((d + 1 : Nat) : Int) - 1 = (d : Int) by omega]
    | skip
  refine (HIH.out W).mono ?_
  intro e w4 hp4
  have HX4 := hide (hx.below hp4.1)
  obtain ⟨y0, y1, y2, y3⟩ := HX4.out.cells
  have hf := box4_frozen HX4.out
  have hl := HX4.out.lt
  have HB4 := hide (hb1.trans (hp4.1.mono hb1.size))
  have hs4 := hp4.1.size
  clear hx hb1
  cases r1 with
  | none =>
    obtain ⟨k, fr, ix, a, m, cp, rfl⟩ := hp4.2.2 rfl
    have HN := hide (show r = none from HR.out)
    clear hp4 HR
    go_wp2_with fail
    refine bodyPost_ret (v := .tuple #[.agg #[.int .i64 4, .string ⟨#[]⟩, .int .i64 0, .slice (some ⟨w4.heap.size + 1, 0, none⟩) 1 1], .int .i64 (-1)]) (by simp [results, Tryd.results80, go_sem, *]) rfl ?_
    exact sp_not HN.out (((below_set4 HB4.out (Nat.le_refl _) _ _ _ _).alloc (by simp; omega) _).alloc (by simp; omega) _)
  | some q =>
    obtain ⟨N, t⟩ := q
    obtain ⟨q, u, bs2, hq, ht, rfl, how, hge, hnd⟩ := hp4.2.1 N t rfl
    have HN := hide (show r = some (ndRec N, t) from HR.out)
    have HOW := hide how
    have HGE := hide hge
    obtain ⟨ua, uc, rfl⟩ := how.val
    clear hp4 HR how hge
    go_wp2_with fail
    refine bodyPost_ret (v := .tuple #[.agg #[.int .i64 4, .string ⟨#[]⟩, .int .i64 0, .slice (some ⟨w4.heap.size + 1, 0, none⟩) 1 1], .int .i64 (q : Nat)]) (by simp [results, Tryd.results80, go_sem, *]) rfl ?_
    have HF := HFI.out N t rfl
    have hlt := HOW.out.lt
    have hos := ow_set4 (b := w.heap.size) HOW.out (fun x hx => by have := HGE.out x hx; omega) (.int .i64 4) (.string ⟨#[]⟩) (.int .i64 0) (.slice (some ⟨w4.heap.size + 1, 0, none⟩) 1 1)
    have HOS := hide (below_set4 HB4.out (Nat.le_refl _) (.int .i64 4) (.string ⟨#[]⟩) (.int .i64 0) (.slice (some ⟨w4.heap.size + 1, 0, none⟩) 1 1))
    have hss : ((((w4.setCell ⟨w.heap.size, 0, none⟩ (.int .i64 4)).setCell ⟨w.heap.size, 1, none⟩ (.string ⟨#[]⟩)).setCell ⟨w.heap.size, 2, none⟩ (.int .i64 0)).setCell ⟨w.heap.size, 3, none⟩ (.slice (some ⟨w4.heap.size + 1, 0, none⟩) 1 1)).heap.size = w4.heap.size := by simp
    generalize ((((w4.setCell ⟨w.heap.size, 0, none⟩ (.int .i64 4)).setCell ⟨w.heap.size, 1, none⟩ (.string ⟨#[]⟩)).setCell ⟨w.heap.size, 2, none⟩ (.int .i64 0)).setCell ⟨w.heap.size, 3, none⟩ (.slice (some ⟨w4.heap.size + 1, 0, none⟩) 1 1)) = S at *
    have hb : Below S.heap.size S ((S.alloc (.cells #[.int .i64 N.k, .string N.fr, .int .i64 N.ix, .slice ua N.kids.len uc] ( /- t -/ 25))).alloc (.cells #[.string ⟨#[]⟩, .int .i64 N.k, .string N.fr, .int .i64 N.ix, .slice ua N.kids.len uc] ( /- t -/ 65))) := (alloc_below S _).alloc (by simp) _
    have hnew := heap_alloc_new (S.alloc (.cells #[.int .i64 N.k, .string N.fr, .int .i64 N.ix, .slice ua N.kids.len uc] ( /- t -/ 25))) (.cells #[.string ⟨#[]⟩, .int .i64 N.k, .string N.fr, .int .i64 N.ix, .slice ua N.kids.len uc] ( /- t -/ 65))
    rw [show (S.alloc (.cells #[.int .i64 N.k, .string N.fr, .int .i64 N.ix, .slice ua N.kids.len uc] ( /- t -/ 25))).heap.size = w4.heap.size + 1 from by simp [hss]] at hnew
    have how1 := ow_one hnew (hos.same (Same.of_below hb hos.lt)) HF
    refine sp_yes (N := ndRec N) HN.out hq ht (HOS.out.trans (hb.mono (by omega))) how1 (fun x hx => ?_) ?_
    · rcases List.mem_cons.1 hx with rfl | hx
      · omega
      · have := HGE.out x hx; omega
    · exact List.nodup_cons.2 ⟨fun hm => by have := hlt _ hm; omega, hnd⟩
end Go.Proofs.YtgcefippeokmcaaDoor.Lo.Ne

/- l2ParseAction of the model. -/
namespace Go.Proofs.YtgcefippeokmcaaDoor.Lo.Ne
open Go.RowKit

def SpRel (T : List UInt8) (g : List UInt8 → Option (Nd × List UInt8)) (R : Option (F × List UInt8)) (kk : Int) (pr : ByteArray) (A : Nat) (w : World) (iv : Value) (wr : World) : Prop :=
  ∃ (j q : Nat) (acc : F) (v : Value) (bs : List Nat), iv = .int .i64 (q : Nat) ∧ q ≤ T.length ∧ Box4 wr A (.int .i64 kk) (.string pr) (.int .i64 0) v ∧ Gr wr (A + 1) v acc bs ∧ acc.len + j = 5 ∧ spB g j (T.drop q) acc = R ∧ Below w.heap.size w wr ∧ Box4 wr w.heap.size (.int .i64 0) (.string ⟨#[]⟩) (.int .i64 0) (.slice none 0 0)
def bxLen (w : World) (A : Nat) : Nat :=
  match w.cell? ⟨A, 3, none⟩ with
  | some (.slice _ n _) => n
  | _ => 0
theorem bxLen_eq {w : World} {A : Nat} {v0 v1 v2 : Value} {a : Option Addr} {n c : Nat} (h : Box4 w A v0 v1 v2 (.slice a n c)) : bxLen w A = n := by
  unfold bxLen
  rw [h.cells.2.2.2]
theorem exB_yes {T : List UInt8} {q : Nat} (hq : q < T.length) (hc : hdC (T.drop q) = 125) (acc : F) : exB (T.drop q) acc = some (acc, T.drop (q + 1)) := by
  obtain ⟨-, -, hdr⟩ := head_at hq
  rw [hdr, hc]
  rfl
theorem exB_end {T : List UInt8} {q : Nat} (hq : T.length ≤ q) (acc : F) : exB (T.drop q) acc = none := by
  rw [List.drop_eq_nil_of_le hq]
  rfl
theorem exB_no {T : List UInt8} {q : Nat} (hq : q < T.length) (hc : hdC (T.drop q) ≠ 125) (acc : F) : exB (T.drop q) acc = none := by
  obtain ⟨-, -, hdr⟩ := head_at hq
  generalize hdC (T.drop q) = c at *
  rw [hdr]
  unfold exB
  rw [if_neg (by simpa [nxC] using hc)]
theorem goes_iff {T : List UInt8} {q : Nat} : goesB (T.drop q) = true ↔ (q + 1 < T.length ∧ (hdC (T.drop q) = 123 ∨ hdC (T.drop q) = 124)) := by
  by_cases hq : q < T.length
  · obtain ⟨-, -, hdr⟩ := head_at hq
    have hl : (T.drop (q + 1)).length = T.length - (q + 1) := List.length_drop
    generalize hdC (T.drop q) = c at *
    rw [hdr]
    have e : (!(T.drop (q + 1)).isEmpty) = true ↔ q + 1 < T.length := by
      cases h : T.drop (q + 1) with
      | nil => rw [h] at hl; simp at hl ⊢; omega
      | cons a b => rw [h] at hl; simp at hl ⊢; omega
    unfold goesB
    rw [Bool.and_eq_true]
    simp only [List.tail_cons, nxC, Bool.or_eq_true, beq_iff_eq]
    rw [e]
    exact And.comm
  · rw [List.drop_eq_nil_of_le (by omega)]
    constructor
    · intro h; cases h
    · intro h; omega
end Go.Proofs.YtgcefippeokmcaaDoor.Lo.Ne

/- A set of pairs of branch slices in a map that the call makes: what a look-up finds, what a store adds. -/
namespace Go.Proofs.YtgcefippeokmcaaDoor.Lo
open Go.RowKit

/-- A block of cells that nobody has frozen. -/
def Good (w : World) (b : Nat) : Prop := ∃ cs t, w.heap[b]? = some (.cells cs t (0, 0))
theorem Good.same {w w' : World} {b : Nat} (h : Good w b) (e : w'.heap[b]? = w.heap[b]?) : Good w' b := by
  obtain ⟨cs, t, h⟩ := h
  exact ⟨cs, t, e.trans h⟩
theorem Good.lt {w : World} {b : Nat} (h : Good w b) : b < w.heap.size := by
  obtain ⟨cs, t, h⟩ := h
  exact (Array.getElem?_eq_some_iff.1 h).1
theorem Good.below {w w' : World} {b : Nat} (h : Good w b) (hb : Below w.heap.size w w') : Good w' b := h.same (hb.block _ h.lt)

/-- Two addresses and a length. -/
structure Ky where
  p : Nat
  q : Nat
  n : Nat
def Ky.val (x : Ky) : Value := .agg #[.pointer (some ⟨x.p, 0, none⟩), .pointer (some ⟨x.q, 0, none⟩), .int .i64 x.n]
def Ky.same (x y : Ky) : Bool := (x.p == y.p) && ((x.q == y.q) && (x.n == y.n))
def Ky.Good (w : World) (x : Ky) : Prop := Lo.Good w x.p ∧ Lo.Good w x.q

theorem run_eq_ptr {P : Program} (w : World) (d : Nat) {tp te : TypeId} {j : TypeInfo} (a b : Nat) (hp : P.underlying tp = some (.pointer te)) (hte : P.info? te = some j) (hsz : j.size ≠ 0) (ha : Good w a) (hb : Good w b) :
    (Op.equalIn (d + 1) tp (.pointer (some ⟨a, 0, none⟩)) (.pointer (some ⟨b, 0, none⟩))).run P w = .ok (a == b) w := by
  obtain ⟨ca, ta, ha⟩ := ha
  obtain ⟨cb, tb, hb⟩ := hb
  by_cases h : a = b
  · subst h
    simp [Op.equalIn, run_underlying hp, sizeOf, typeInfo, hte, run_sameAddr_same]
  · have hne : (⟨a, 0, none⟩ : Addr) ≠ ⟨b, 0, none⟩ := by exact fun e => h (congrArg Addr.block e)
    simp [Op.equalIn, run_underlying hp, sizeOf, typeInfo, hte, hsz, run_sameAddr_other w hne ha hb, h]

theorem infoB : (Tryd.prog.info? ( /- t -/ 65)).map (fun i => i.size) = some 5 := by kernel_rfl
theorem keyU : Tryd.prog.underlying ( /- t -/ 132) = some (.struct (Tryd.prog.fieldsOf ( /- t -/ 132))) := by kernel_rfl
theorem keyS : Tryd.prog.stoodInHeld ( /- t -/ 132) = false := by kernel_rfl

theorem ky_equal (w : World) (x y : Ky) (hx : x.Good w) (hy : y.Good w) : (Op.equal ( /- t -/ 132) x.val y.val).run Tryd.prog w = .ok (x.same y) w := by
  obtain ⟨j, hj, hs⟩ : ∃ j, Tryd.prog.info? ( /- t -/ 65) = some j ∧ j.size ≠ 0 := by
    have := infoB
    cases h : Tryd.prog.info? ( /- t -/ 65) with
    | none => rw [h] at this; cases this
    | some i => rw [h] at this; exact ⟨i, rfl, by simp at this; omega⟩
  unfold Op.equal Ky.val
  rw [show Op.maxDepth = 9999 + 1 from rfl, run_equalIn_agg w 9999 _ _ _ keyU keyS]
  simp only [Program.fieldsOf, Tryd.underlying132]
  simp only [Op.eqFields]
  go_simp
  rw [run_eq_ptr w 9998 x.p y.p Tryd.underlying130 hj hs hx.1 hy.1]
  simp only [Result.andThen_ok]
  rw [run_eq_ptr w 9998 x.q y.q Tryd.underlying130 hj hs hx.2 hy.2]
  simp only [Result.andThen_ok, Ky.same]
  cases h1 : (x.p == y.p) <;> cases h2 : (x.q == y.q) <;> by_cases h3 : x.n = y.n <;> (have h4 : ((x.n : Int) = y.n) ↔ (x.n = y.n) := by omega) <;> simp [h3, h4]

theorem ky_check (w : World) (x : Ky) (em : Bool) : (Instr.checkKey em 10000 ( /- t -/ 132) x.val).run Tryd.prog w = .ok () w := by
  unfold Ky.val
  kernel_rfl

theorem ky_ask (w : World) (x : Ky) (hx : x.Good w) : ∀ (es : List MapEntry) (S : List Ky) (i : Nat), es.map (·.key) = S.map Ky.val → (∀ y ∈ S, y.Good w) → (∀ e ∈ es, e.val = .bool true) →
    ∃ r, (Instr.findAsking ( /- t -/ 132) x.val es i).run Tryd.prog w = .ok r w ∧ ((r = none ∧ S.any (fun y => x.same y) = false) ∨ (∃ j, r = some (j, .bool true) ∧ S.any (fun y => x.same y) = true)) := by
  intro es
  induction es with
  | nil =>
    intro S i he _ _
    cases S with
    | nil => exact ⟨none, by simp [Instr.findAsking], Or.inl ⟨rfl, rfl⟩⟩
    | cons => simp at he
  | cons e es ih =>
    intro S i he hS hv
    cases S with
    | nil => simp at he
    | cons y S =>
      simp only [List.map_cons, List.cons.injEq] at he
      obtain ⟨he1, he2⟩ := he
      obtain ⟨r, hr, hc⟩ := ih S (i + 1) he2 (fun z hz => hS z (by simp [hz])) (fun z hz => hv z (by simp [hz]))
      have hq := ky_equal w x y hx (hS y (by simp))
      rw [← he1] at hq
      cases hb : x.same y with
      | true => exact ⟨some (i, .bool true), by simp [Instr.findAsking, hq, hb, Result.andThen, hv e (by simp)], Or.inr ⟨i, rfl, by simp [hb]⟩⟩
      | false => exact ⟨r, by simp [Instr.findAsking, hq, hb, Result.andThen, hr], by simpa [hb] using hc⟩

theorem ky_find (w : World) (x : Ky) (hx : x.Good w) (es : List MapEntry) (S : List Ky) (he : es.map (·.key) = S.map Ky.val) (hS : ∀ y ∈ S, y.Good w) (hv : ∀ e ∈ es, e.val = .bool true) :
    ∃ r, (Instr.findKey ( /- t -/ 132) x.val es).run Tryd.prog w = .ok r w ∧ ((r = none ∧ S.any (fun y => x.same y) = false) ∨ (∃ j, r = some (j, .bool true) ∧ S.any (fun y => x.same y) = true)) := by
  obtain ⟨r, hr, hc⟩ := ky_ask w x hx es S 0 he hS hv
  cases es with
  | nil =>
    cases S with
    | nil => exact ⟨none, by simp [Instr.findKey, run_underlying keyU, Instr.findNow], Or.inl ⟨rfl, rfl⟩⟩
    | cons => simp at he
  | cons e es =>
    refine ⟨r, ?_, hc⟩
    cases S with
    | nil => simp at he
    | cons y S =>
      simp only [List.map_cons, List.cons.injEq] at he
      have h0 : Instr.findNow (.struct (Tryd.prog.fieldsOf ( /- t -/ 132))) x.val (e :: es) 0 = none := by
        simp only [Instr.findNow, Instr.sameNow]
      simp [Instr.findKey, run_underlying keyU, h0, hr]

/-- Block m is a map from pairs to true whose keys are these. -/
def MapIs (w : World) (m : Nat) (S : List Ky) : Prop := ∃ es clock, w.heap[m]? = some (.map es clock) ∧ es.toList.map (·.key) = S.map Ky.val ∧ ∀ e ∈ es.toList, e.val = .bool true
theorem MapIs.same {w w' : World} {m : Nat} {S : List Ky} (h : MapIs w m S) (e : w'.heap[m]? = w.heap[m]?) : MapIs w' m S := by
  obtain ⟨es, clock, h1, h2⟩ := h
  exact ⟨es, clock, e.trans h1, h2⟩
theorem MapIs.lt {w : World} {m : Nat} {S : List Ky} (h : MapIs w m S) : m < w.heap.size := by
  obtain ⟨es, clock, h1, h2⟩ := h
  exact (Array.getElem?_eq_some_iff.1 h1).1
theorem MapIs.made (w : World) : MapIs (w.alloc (.map #[] 0)) w.heap.size [] := ⟨#[], 0, (MapKept.heap_alloc w _).1, rfl, by simp⟩

theorem seen_look {w : World} {m : Nat} {S : List Ky} (h : MapIs w m S) (x : Ky) (hx : x.Good w) (hS : ∀ y ∈ S, y.Good w) :
    (Instr.lookup ( /- t -/ 127) (.map (some m)) x.val false).run Tryd.prog w = .ok (.bool (S.any (fun y => x.same y))) w := by
  obtain ⟨es, clock, h1, h2, h3⟩ := h
  obtain ⟨r, hr, hc⟩ := ky_find w x hx es.toList S h2 hS h3
  have hz : (zeroValue ( /- t -/ 4)).run Tryd.prog w = .ok (.bool false) w := by kernel_rfl
  rcases hc with ⟨rfl, hs⟩ | ⟨j, rfl, hs⟩
  · simp [Instr.lookup, run_underlying Tryd.underlying127, MapKept.run_getObj_map h1, ky_check, hr, hz, hs, Result.andThen]
  · simp [Instr.lookup, run_underlying Tryd.underlying127, MapKept.run_getObj_map h1, ky_check, hr, hs, Result.andThen]

theorem seen_store {w : World} {m : Nat} {S : List Ky} (h : MapIs w m S) (x : Ky) (hx : x.Good w) (hS : ∀ y ∈ S, y.Good w) (hn : S.any (fun y => x.same y) = false) :
    ∃ w', (Instr.mapUpdate ( /- t -/ 127) (.map (some m)) x.val (.bool true)).run Tryd.prog w = .ok () w' ∧ MapIs w' m (S ++ [x]) ∧ w.grownBy w' (some m) := by
  obtain ⟨es, clock, h1, h2, h3⟩ := h
  obtain ⟨r, hr, hc⟩ := ky_find w x hx es.toList S h2 hS h3
  rcases hc with ⟨rfl, _⟩ | ⟨j, rfl, hs⟩
  · refine ⟨ChangeMaps.setBlock w m (.map (es.push ⟨x.val, .bool true, clock⟩) (clock + 1)), ?_, ?_, ?_⟩
    · simp [Instr.mapUpdate, run_underlying Tryd.underlying127, MapKept.run_getObj_map h1, ky_check, hr, MapKept.run_setObj_map _ h1, Result.andThen, ChangeMaps.setBlock]
    · exact ⟨_, _, ChangeMaps.heap_setBlock_same h1 _, by simp [h2], fun e he => by
        simp only [Array.toList_push, List.mem_append, List.mem_singleton] at he
        rcases he with he | rfl
        · exact h3 e he
        · rfl⟩
    · exact ⟨rfl, rfl, rfl, by simp [ChangeMaps.setBlock], fun k _ hk => ChangeMaps.heap_setBlock_other h1 _ (fun e => hk (by rw [e]))⟩
  · rw [hn] at hs
    cases hs

theorem wpList_seen_look (w : World) {ops : Array Oper} {rest : List Oper} {o : Oper} {a : Act} {Q : Exit → Act → World → Prop}
    (hg : o.guard = none) (mo xo : Operand) (hop : o.op = Op.lookup ( /- t -/ 127) mo xo false) (m : Nat) (S : List Ky) (h : MapIs w m S) (x : Ky) (hx : x.Good w) (hS : ∀ y ∈ S, y.Good w)
    (hm : a.eval mo = .map (some m)) (hk : a.eval xo = x.val) (hK : wpList Tryd.prog ops Q rest (a.put o.dst (.bool (S.any (fun y => x.same y)))) w) : wpList Tryd.prog ops Q (o :: rest) a w := by
  refine wpList_plain hg fun K' hK' => ?_
  have hrun := seen_look h x hx hS
  unfold Oper.wp
  simp [execOp, hop, hm, hk, hrun, Result.andThen]
  exact hK' _ _ hK

theorem wpList_seen_store (w : World) {ops : Array Oper} {rest : List Oper} {o : Oper} {a : Act} {Q : Exit → Act → World → Prop}
    (hg : o.guard = none) (mo xo vo : Operand) (hop : o.op = Op.mapUpdate ( /- t -/ 127) mo xo vo) (m : Nat) (S : List Ky) (h : MapIs w m S) (x : Ky) (hx : x.Good w) (hS : ∀ y ∈ S, y.Good w) (hn : S.any (fun y => x.same y) = false)
    (hm : a.eval mo = .map (some m)) (hk : a.eval xo = x.val) (hv : a.eval vo = .bool true) (hK : ∀ w', MapIs w' m (S ++ [x]) → w.grownBy w' (some m) → wpList Tryd.prog ops Q rest (a.put o.dst undef) w') : wpList Tryd.prog ops Q (o :: rest) a w := by
  refine wpList_plain hg fun K' hK' => ?_
  obtain ⟨w', hrun, r1, r2⟩ := seen_store h x hx hS hn
  unfold Oper.wp
  simp [execOp, hop, hm, hk, hv, hrun, Result.andThen]
  exact hK' _ _ (hK w' r1 r2)

end Go.Proofs.YtgcefippeokmcaaDoor.Lo
