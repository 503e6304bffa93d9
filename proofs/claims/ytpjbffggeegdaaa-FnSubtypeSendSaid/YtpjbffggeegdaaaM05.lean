/- Pla, Pm, Pn, Poa, LSm, LUl, LKt, LIx, LKi -/
import Derived.Test.YtpjbffggeegdaaaM00
import Derived.Test.YtpjbffggeegdaaaM04
import Derived.Test.YtpjbffggeegdaaaM02
import Derived.Deep.AppendLies
import Derived.Deep.Cut
import Derived.Deep.RegionWith
import Derived.Deep.RegionHeld3
import Derived.Deep.RegionLawGrows
import Derived.LaidEqlPtr
/- What a text says: the tree whose text it is; what ParseLocal owes. -/
namespace Go.Proofs.Ytpjbffggeegdaaa.Lo.Ne
open Go.RowKit

def FitN (N : Nd) : Prop := N.fr.size ≤ 1 ∧ (Lit.int .i64 N.k).wf = true ∧ (Lit.int .i64 N.ix).wf = true
/-- What a text says. -/
def resL (s : List UInt8) : Option Nd :=
  match rl (s.length + 1) s with
  | some (N, []) => if okN N.k N.fr N.ix N.kids = true then some N else none
  | _ => none
theorem resL_some {s : List UInt8} {N : Nd} (h : rl (s.length + 1) s = some (N, [])) (hk : okN N.k N.fr N.ix N.kids = true) : resL s = some N := by
  unfold resL
  rw [h]
  simp only
  rw [if_pos hk]
theorem resL_bad {s : List UInt8} {N : Nd} (h : rl (s.length + 1) s = some (N, [])) (hk : okN N.k N.fr N.ix N.kids = false) : resL s = none := by
  unfold resL
  rw [h]
  simp only
  rw [if_neg (by rw [hk]; decide)]
theorem resL_left {s : List UInt8} {N : Nd} {b : UInt8} {t : List UInt8} (h : rl (s.length + 1) s = some (N, b :: t)) : resL s = none := by
  unfold resL
  rw [h]
theorem resL_fail {s : List UInt8} (h : rl (s.length + 1) s = none) : resL s = none := by
  unfold resL
  rw [h]
/-- What a text says is the tree whose text it is. -/
theorem resL_iff (s : List UInt8) (N : Nd) : resL s = some N ↔ (okN N.k N.fr N.ix N.kids = true ∧ digN N = true ∧ s = bl (txN N.k N.fr N.ix N.kids)) := by
  constructor
  · intro h
    unfold resL at h
    split at h
    · rename_i M hM
      split at h
      · rename_i hk
        injection h with h
        subst h
        have hv := hk
        unfold okN at hv
        simp only [Bool.and_eq_true] at hv
        have := (snd_all _).1 _ _ _ hM 0 0 40 (by omega) hv.1
        rw [List.append_nil] at this
        exact ⟨hk, this.2, this.1⟩
      · cases h
    · cases h
  · rintro ⟨hk, hd, rfl⟩
    have hv := hk
    unfold okN at hv
    simp only [Bool.and_eq_true] at hv
    refine resL_some ?_ hk
    have := back_node (back_all N.kids) (k := N.k) (fr := N.fr) (ix := N.ix) (b := 0) (u := 0) (d := 40) (by omega) hv.1 hd ((bl (txN N.k N.fr N.ix N.kids)).length + 1) [] (by simp)
    rw [List.append_nil] at this
    exact this
theorem resL_size {s : List UInt8} {N : Nd} (h : resL s = some N) : s.length ≤ 2000 := by
  obtain ⟨hk, hd, rfl⟩ := (resL_iff s N).1 h
  unfold okN at hk
  simp only [Bool.and_eq_true, decide_eq_true_eq] at hk
  have := txN_size (by omega) (by omega) (by omega) hk.1
  rw [bl_length]
  omega

def outL (s : List UInt8) : Nd := (resL s).getD ⟨0, ⟨#[]⟩, 0, .nil⟩
/-- What ParseLocal owes: a node in new memory and a flag. -/
def PlPost (s : List UInt8) (w : World) (e : Ending) (w' : World) : Prop :=
  ∃ u bs, e = .returned (.tuple #[.agg #[.int .i64 (outL s).k, .string (outL s).fr, .int .i64 (outL s).ix, u], .bool (resL s).isSome]) ∧ Ow w' u (outL s).kids bs ∧ (∀ b, b ∈ bs → w.heap.size ≤ b) ∧ bs.Nodup ∧ Below w.heap.size w w'
theorem pl_no {s : List UInt8} (h : resL s = none) {w w' : World} (hb : Below w.heap.size w w') : PlPost s w (.returned (.tuple #[.agg #[.int .i64 0, .string ⟨#[]⟩, .int .i64 0, .slice none 0 0], .bool false])) w' := by
  unfold PlPost outL
  rw [h]
  exact ⟨_, [], rfl, ⟨none, 0, rfl, Nat.le_refl _, Nat.zero_le _, Or.inl ⟨rfl, rfl⟩⟩, fun _ h => absurd h (List.not_mem_nil), List.nodup_nil, hb⟩
theorem pl_yes {s : List UInt8} {N : Nd} (h : resL s = some N) {w w' : World} {u : Value} {bs : List Nat} (how : Ow w' u N.kids bs) (hge : ∀ b, b ∈ bs → w.heap.size ≤ b) (hnd : bs.Nodup) (hb : Below w.heap.size w w') :
    PlPost s w (.returned (.tuple #[.agg #[.int .i64 N.k, .string N.fr, .int .i64 N.ix, u], .bool true])) w' := by
  unfold PlPost outL
  rw [h]
  exact ⟨u, bs, rfl, how, hge, hnd, hb⟩
theorem below_set4 {B b : Nat} {w w' : World} (h : Below B w w') (hb : B ≤ b) (u0 u1 u2 u3 : Value) : Below B w ((((w'.setCell ⟨b, 0, none⟩ u0).setCell ⟨b, 1, none⟩ u1).setCell ⟨b, 2, none⟩ u2).setCell ⟨b, 3, none⟩ u3) :=
  (((h.setCell (p := ⟨b, 0, none⟩) hb u0).setCell (p := ⟨b, 1, none⟩) hb u1).setCell (p := ⟨b, 2, none⟩) hb u2).setCell (p := ⟨b, 3, none⟩) hb u3

theorem ow_set4 {w' : World} {b : Nat} {u : Value} {f : F} {bs : List Nat} (h : Ow w' u f bs) (hb : ∀ x, x ∈ bs → x ≠ b) (u0 u1 u2 u3 : Value) : Ow ((((w'.setCell ⟨b, 0, none⟩ u0).setCell ⟨b, 1, none⟩ u1).setCell ⟨b, 2, none⟩ u2).setCell ⟨b, 3, none⟩ u3) u f bs :=
  h.same ((((Same.refl _ _).setCell hb _).setCell hb _).setCell hb _ |>.setCell hb _)
/-- One branch in a row of its own. -/
theorem ow_one {w : World} {b : Nat} {N : Nd} {u : Value} {bs : List Nat} {t : TypeId} (hw : w.heap[b]? = some (.cells #[.string ⟨#[]⟩, .int .i64 N.k, .string N.fr, .int .i64 N.ix, u] t (0, 0))) (hu : Ow w u N.kids bs) (hf : FitN N) :
    Ow w (.slice (some ⟨b, 0, none⟩) 1 1) (.cons ⟨#[]⟩ N.k N.fr N.ix N.kids .nil) (b :: bs) := by
  obtain ⟨f1, f2, f3⟩ := hf
  obtain ⟨a, cap, rfl, e1, e2, e3⟩ := hu
  have q : ∀ i, w.cell? ⟨b, i, none⟩ = (#[.string ⟨#[]⟩, .int .i64 N.k, .string N.fr, .int .i64 N.ix, .slice a N.kids.len cap] : Array Value)[i]? := fun i => by simp [World.cell?, hw]
  exact ⟨_, 1, rfl, Nat.le_refl _, by decide, Or.inr ⟨b, 5, bs, rfl, rfl, ⟨_, t, hw, rfl⟩, by simp, by decide, Nat.le_trans f1 (by decide), f2, f3, q 0, q 1, q 2, q 3, bs, [], by simp, ⟨a, cap, q 4, e1, e2, e3⟩, rfl⟩⟩
theorem inf_lb : (Try.prog.info? ( /- t -/ 65)).map (fun i => (i.zero, i.size, i.bytes)) = some (some (.agg #[.string ⟨#[]⟩, .int .i64 0, .string ⟨#[]⟩, .int .i64 0, .slice none 0 0]), 5, 72) := by kernel_rfl
theorem box4_set3 {w : World} {b : Nat} {v0 v1 v2 v3 : Value} (h : Box4 w b v0 v1 v2 v3) (u : Value) : Box4 (w.setCell ⟨b, 3, none⟩ u) b v0 v1 v2 u := by
  obtain ⟨t, h⟩ := h
  exact ⟨t, heap_setCell_same h _⟩
end Go.Proofs.Ytpjbffggeegdaaa.Lo.Ne

/- l2Parse of the model: what it owes; an end, a variable. -/
namespace Go.Proofs.Ytpjbffggeegdaaa.Lo.Ne
open Go.RowKit

def SpPost (T : List UInt8) (r : Option (Nd × List UInt8)) (w : World) (e : Ending) (w' : World) : Prop :=
  Below w.heap.size w w' ∧ (∀ N t, r = some (N, t) → ∃ (q : Nat) (u : Value) (bs : List Nat), q ≤ T.length ∧ t = T.drop q ∧ e = .returned (.tuple #[.agg #[.int .i64 N.k, .string N.fr, .int .i64 N.ix, u], .int .i64 (q : Nat)]) ∧ Ow w' u N.kids bs ∧ (∀ b, b ∈ bs → w.heap.size ≤ b) ∧ bs.Nodup) ∧
  (r = none → ∃ k fr ix a m cp, e = .returned (.tuple #[.agg #[.int .i64 k, .string fr, .int .i64 ix, .slice a m cp], .int .i64 (-1)]))
theorem sp_yes {T t : List UInt8} {r : Option (Nd × List UInt8)} {N : Nd} (h : r = some (N, t)) {w w' : World} {u : Value} {bs : List Nat} {q : Nat} (hq : q ≤ T.length) (ht : t = T.drop q) (hb : Below w.heap.size w w') (how : Ow w' u N.kids bs) (hge : ∀ b, b ∈ bs → w.heap.size ≤ b) (hnd : bs.Nodup) :
    SpPost T r w (.returned (.tuple #[.agg #[.int .i64 N.k, .string N.fr, .int .i64 N.ix, u], .int .i64 (q : Nat)])) w' := by
  refine ⟨hb, fun N' t' h' => ?_, fun h' => by rw [h] at h'; cases h'⟩
  rw [h] at h'
  injection h' with h'
  injection h' with h1 h2
  subst h1 h2
  exact ⟨q, u, bs, hq, ht, rfl, how, hge, hnd⟩
theorem sp_not {T : List UInt8} {r : Option (Nd × List UInt8)} (h : r = none) {w w' : World} {k ix : Int} {fr : ByteArray} {a : Option Addr} {m cp : Nat} (hb : Below w.heap.size w w') :
    SpPost T r w (.returned (.tuple #[.agg #[.int .i64 k, .string fr, .int .i64 ix, .slice a m cp], .int .i64 (-1)])) w' := by
  refine ⟨hb, fun N t h' => ?_, fun _ => ⟨k, fr, ix, a, m, cp, rfl⟩⟩
  rw [h] at h'
  cases h'
def SpAt (d : Nat) : Prop := ∀ (w : World) (T : List UInt8) (p : Nat), T.length ≤ 1048576 → p ≤ T.length →
  Calls Try.prog 42 #[.string (bs T), .int .i64 (p : Nat), .int .i64 (d : Nat)] w (SpPost T (sp d (T.drop p)) w)

theorem head_at {T : List UInt8} {p : Nat} (h : p < T.length) : ∃ hin : p < (bs T).size, (bs T)[p]'hin = hdC (T.drop p) ∧ T.drop p = hdC (T.drop p) :: T.drop (p + 1) := by
  refine ⟨by rw [bs_size]; exact h, ?_, ?_⟩
  · rw [List.drop_eq_getElem_cons h]
    rfl
  · conv => lhs; rw [List.drop_eq_getElem_cons h]
    rw [List.drop_eq_getElem_cons h]
    rfl

set_option maxHeartbeats 1600000 in
set_option maxRecDepth 100000 in
theorem sp_out (d : Nat) (hd : d ≤ 40) (w : World) (T : List UInt8) (p : Nat) (h : d = 0 ∨ p = T.length) :
    Calls Try.prog 42 #[.string (bs T), .int .i64 (p : Nat), .int .i64 (d : Nat)] w (SpPost T (sp d (T.drop p)) w) := by
  have hsz : (bs T).size = T.length := bs_size T
  have HN : Hid (sp d (T.drop p) = none) := by
    unfold Hid
    rcases h with rfl | rfl
    · rfl
    · rw [List.drop_length]
      cases d <;> rfl
  generalize sp d (T.drop p) = r at *
  by_cases hd0 : d = 0
  · subst hd0
    clear h
    go_enter Try.func42, Try.ntmps42
    go_wp2_with fail
    refine bodyPost_ret (v := .tuple #[.agg #[.int .i64 0, .string ⟨#[]⟩, .int .i64 0, .slice none 0 0], .int .i64 (-1)]) (by simp [results, Try.results42, go_sem, *]) rfl ?_
    exact sp_not HN.out (alloc_below w _)
  · obtain rfl : p = T.length := by omega
    have h1 : ¬ (d : Int) < 1 := by omega
    clear h hd0
    go_enter Try.func42, Try.ntmps42
    go_wp2_with fail
    refine bodyPost_ret (v := .tuple #[.agg #[.int .i64 0, .string ⟨#[]⟩, .int .i64 0, .slice none 0 0], .int .i64 (-1)]) (by simp [results, Try.results42, go_sem, *]) rfl ?_
    exact sp_not HN.out (alloc_below w _)

set_option maxHeartbeats 1600000 in
set_option maxRecDepth 100000 in
theorem sp_dot (d : Nat) (hd : d ≤ 40) (w : World) (T : List UInt8) (p : Nat) (hT : T.length ≤ 1048576) (hp : p < T.length) (hc : hdC (T.drop p) = 46) :
    Calls Try.prog 42 #[.string (bs T), .int .i64 (p : Nat), .int .i64 ((d + 1 : Nat) : Int)] w (SpPost T (sp (d + 1) (T.drop p)) w) := by
  have hsz : (bs T).size = T.length := bs_size T
  obtain ⟨hin, hget, hdr⟩ := head_at hp
  have HS : Hid (sp (d + 1) (T.drop p) = some (ndEnd, T.drop (p + 1))) := by
    unfold Hid
    rw [hdr, hc]
    rfl
  have hlt : (p : Int) < (T.length : Int) := by omega
  have hcb : (((bs T)[p]'hin).toNat : Int) = 46 := by rw [hget, hc]; rfl
  have h1 : ¬ ((d + 1 : Nat) : Int) < 1 := by omega
  clear hget hdr hc
  generalize sp (d + 1) (T.drop p) = r at *
  go_enter Try.func42, Try.ntmps42
  go_wp2_with fail
  refine bodyPost_ret (v := .tuple #[.agg #[.int .i64 1, .string ⟨#[]⟩, .int .i64 0, .slice none 0 0], .int .i64 ((p + 1 : Nat) : Int)]) (by simp [results, Try.results42, go_sem, *]) rfl ?_
  exact sp_yes (N := ndEnd) (bs := []) HS.out (by omega) rfl (alloc_below w _) ⟨none, 0, rfl, Nat.le_refl _, Nat.zero_le _, Or.inl ⟨rfl, rfl⟩⟩ (fun _ h => absurd h (List.not_mem_nil)) List.nodup_nil

set_option maxHeartbeats 1600000 in
set_option maxRecDepth 100000 in
theorem sp_hash (d : Nat) (hd : d ≤ 40) (w : World) (T : List UInt8) (p : Nat) (hT : T.length ≤ 1048576) (hp : p + 1 < T.length) (hc : hdC (T.drop p) = 35) :
    Calls Try.prog 42 #[.string (bs T), .int .i64 (p : Nat), .int .i64 ((d + 1 : Nat) : Int)] w (SpPost T (sp (d + 1) (T.drop p)) w) := by
  have hsz : (bs T).size = T.length := bs_size T
  obtain ⟨hin, hget, hdr⟩ := head_at (show p < T.length by omega)
  obtain ⟨hin1, hget1, hdr1⟩ := head_at hp
  generalize hcc : hdC (T.drop (p + 1)) = c at *
  have HS : Hid (sp (d + 1) (T.drop p) = some (ndVar c, T.drop (p + 2))) := by
    unfold Hid
    rw [hdr, hc, hdr1]
    rfl
  have hlt : (p : Int) < (T.length : Int) := by omega
  have hlt1 : (p : Int) + 1 < (T.length : Int) := by omega
  have hcb : (((bs T)[p]'hin).toNat : Int) = 35 := by rw [hget, hc]; rfl
  have h1 : ¬ ((d + 1 : Nat) : Int) < 1 := by omega
  have hc256 := c.toNat_lt
  clear hget hdr hc hdr1 hcc
  generalize sp (d + 1) (T.drop p) = r at *
  go_enter Try.func42, Try.ntmps42
  go_wp2_with fail
  refine bodyPost_ret (v := .tuple #[.agg #[.int .i64 5, .string ⟨#[]⟩, .int .i64 ((c.toNat : Int) - 48), .slice none 0 0], .int .i64 ((p + 2 : Nat) : Int)]) (by simp [results, Try.results42, go_sem, *]) rfl ?_
  exact sp_yes (N := ndVar c) (bs := []) HS.out (by omega) rfl (alloc_below w _) ⟨none, 0, rfl, Nat.le_refl _, Nat.zero_le _, Or.inl ⟨rfl, rfl⟩⟩ (fun _ h => absurd h (List.not_mem_nil)) List.nodup_nil

set_option maxHeartbeats 1600000 in
set_option maxRecDepth 100000 in
/-- No node begins so. -/
theorem sp_other (d : Nat) (hd : d ≤ 40) (w : World) (T : List UInt8) (p : Nat) (hT : T.length ≤ 1048576) (hp : p < T.length) (h46 : hdC (T.drop p) ≠ 46) (h35 : hdC (T.drop p) = 35 → T.length ≤ p + 1) (h64 : hdC (T.drop p) ≠ 64) (h123 : nxC (T.drop (p + 2)) 123 = false) :
    Calls Try.prog 42 #[.string (bs T), .int .i64 (p : Nat), .int .i64 ((d + 1 : Nat) : Int)] w (SpPost T (sp (d + 1) (T.drop p)) w) := by
  have hsz : (bs T).size = T.length := bs_size T
  obtain ⟨hin, hget, hdr⟩ := head_at hp
  have hlt : (p : Int) < (T.length : Int) := by omega
  have h1 : ¬ ((d + 1 : Nat) : Int) < 1 := by omega
  have HN : Hid (sp (d + 1) (T.drop p) = none) := by
    unfold Hid
    generalize hc : hdC (T.drop p) = c at *
    rw [sp, hdr, if_neg (by simpa [nxC] using h46), if_neg (fun h => by simp [nxC] at h; have := h35 h.1; omega), if_neg (by simpa [nxC] using h64)]
    rw [show (c :: T.drop (p + 1)).tail.tail = T.drop (p + 2) by simp [List.tail_drop], if_neg (by rw [h123]; decide)]
  have hcb : (((bs T)[p]'hin).toNat : Int) ≠ 46 := by rw [hget]; exact fun h => h46 (UInt8.toNat_inj.1 (by show _ = 46; omega))
  have hcd : (((bs T)[p]'hin).toNat : Int) ≠ 64 := by rw [hget]; exact fun h => h64 (UInt8.toNat_inj.1 (by show _ = 64; omega))
  by_cases h35' : hdC (T.drop p) = 35
  · have hl := h35 h35'
    have hce : (((bs T)[p]'hin).toNat : Int) = 35 := by rw [hget, h35']; rfl
    have hl1 : ¬ (p : Int) + 1 < (T.length : Int) := by omega
    have hl2 : ¬ (p : Int) + 2 < (T.length : Int) := by omega
    clear hget hdr h46 h35 h64 h123 h35' hcb hcd
    generalize sp (d + 1) (T.drop p) = r at *
    go_enter Try.func42, Try.ntmps42
    go_wp2_with fail
    refine bodyPost_ret (v := .tuple #[.agg #[.int .i64 0, .string ⟨#[]⟩, .int .i64 0, .slice none 0 0], .int .i64 (-1)]) (by simp [results, Try.results42, go_sem, *]) rfl ?_
    exact sp_not HN.out (alloc_below w _)
  have hce : (((bs T)[p]'hin).toNat : Int) ≠ 35 := by rw [hget]; exact fun h => h35' (UInt8.toNat_inj.1 (by show _ = 35; omega))
  by_cases hl : T.length ≤ p + 2
  · have hl2 : ¬ (p : Int) + 2 < (T.length : Int) := by omega
    clear hget hdr h46 h35 h64 h123 h35'
    generalize sp (d + 1) (T.drop p) = r at *
    go_enter Try.func42, Try.ntmps42
    go_wp2_with fail
    refine bodyPost_ret (v := .tuple #[.agg #[.int .i64 0, .string ⟨#[]⟩, .int .i64 0, .slice none 0 0], .int .i64 (-1)]) (by simp [results, Try.results42, go_sem, *]) rfl ?_
    exact sp_not HN.out (alloc_below w _)
  · obtain ⟨hin2, hget2, hdr2⟩ := head_at (show p + 2 < T.length by omega)
    have hl2 : (p : Int) + 2 < (T.length : Int) := by omega
    have hcf : (((bs T)[p + 2]'hin2).toNat : Int) ≠ 123 := by
      rw [hget2]
      intro h
      have : hdC (T.drop (p + 2)) = 123 := UInt8.toNat_inj.1 (by show _ = 123; omega)
      rw [hdr2, this] at h123
      cases h123
    clear hget hdr h46 h35 h64 h123 h35' hget2 hdr2
    generalize sp (d + 1) (T.drop p) = r at *
    go_enter Try.func42, Try.ntmps42
    go_wp2_with fail
    refine bodyPost_ret (v := .tuple #[.agg #[.int .i64 0, .string ⟨#[]⟩, .int .i64 0, .slice none 0 0], .int .i64 (-1)]) (by simp [results, Try.results42, go_sem, *]) rfl ?_
    exact sp_not HN.out (alloc_below w _)
end Go.Proofs.Ytpjbffggeegdaaa.Lo.Ne

/- l2Parse of the model: a recursion. -/
namespace Go.Proofs.Ytpjbffggeegdaaa.Lo.Ne
open Go.RowKit

theorem sp_fit (d : Nat) (s : List UInt8) (N : Nd) (t : List UInt8) (h : sp d s = some (N, t)) : FitN N := by
  cases d with
  | zero => cases h
  | succ d =>
    rw [sp] at h
    split at h
    · injection h with h
      injection h with h1 h2
      subst h1
      exact ⟨Nat.zero_le 1, rfl, rfl⟩
    split at h
    · injection h with h
      injection h with h1 h2
      subst h1
      have := (hdC s.tail).toNat_lt
      exact ⟨Nat.zero_le 1, rfl, WalkArith.wf_i64 (show -9223372036854775808 ≤ ((hdC s.tail).toNat : Int) - 48 ∧ ((hdC s.tail).toNat : Int) - 48 ≤ 9223372036854775807 by omega)⟩
    split at h
    · split at h
      · injection h with h
        injection h with h1 h2
        subst h1
        exact ⟨Nat.zero_le 1, rfl, rfl⟩
      · cases h
    split at h
    · split at h
      · injection h with h
        injection h with h1 h2
        subst h1
        refine ⟨Nat.le_refl 1, ?_, rfl⟩
        simp only
        split <;> rfl
      · cases h
    · cases h

set_option maxHeartbeats 1600000 in
set_option maxRecDepth 100000 in
theorem sp_at (d : Nat) (hd : d ≤ 40) (ih : SpAt d) (w : World) (T : List UInt8) (p : Nat) (hT : T.length ≤ 1048576) (hp : p < T.length) (hc : hdC (T.drop p) = 64) :
    Calls Try.prog 42 #[.string (bs T), .int .i64 (p : Nat), .int .i64 ((d + 1 : Nat) : Int)] w (SpPost T (sp (d + 1) (T.drop p)) w) := by
  have hsz : (bs T).size = T.length := bs_size T
  obtain ⟨hin, hget, hdr⟩ := head_at hp
  have hlt : (p : Int) < (T.length : Int) := by omega
  have hcb : (((bs T)[p]'hin).toNat : Int) = 64 := by rw [hget, hc]; rfl
  have h1 : ¬ ((d + 1 : Nat) : Int) < 1 := by omega
  have HR : Hid (sp (d + 1) (T.drop p) = (match sp d (T.drop (p + 1)) with | some (N, t) => some (ndRec N, t) | none => none)) := by
    unfold Hid
    rw [hdr, hc]
    rfl
  have HIH := hide (fun w => ih w T (p + 1) hT (by omega))
  have HFI := hide (sp_fit d (T.drop (p + 1)))
  clear hget hdr hc ih
  generalize sp (d + 1) (T.drop p) = r at *
  generalize sp d (T.drop (p + 1)) = r1 at *
  go_enter Try.func42, Try.ntmps42
  go_wp2_with fail
  have hx := Box4.now w (.int .i64 0) (.string ⟨#[]⟩) (.int .i64 0) (.slice none 0 0) ( /- t -/ 25)
  have hb1 := alloc_below w (.cells #[.int .i64 0, .string ⟨#[]⟩, .int .i64 0, .slice none 0 0] ( /- t -/ 25))
  have hw1 : w.heap.size < (w.alloc (.cells #[.int .i64 0, .string ⟨#[]⟩, .int .i64 0, .slice none 0 0] ( /- t -/ 25))).heap.size := by simp
  generalize w.alloc (.cells #[.int .i64 0, .string ⟨#[]⟩, .int .i64 0, .slice none 0 0] ( /- t -/ 25)) = W at *
  rw [show (p : Int) + 1 = ((p + 1 : Nat) : Int) by omega]
  first
    | rw [show ((d + 1 : Nat) : Int) - 1 = (d : Int) by omega]
    | skip
  refine (HIH.out W).mono ?_
  intro e w4 hp4
  have HX4 := hide (hx.below hp4.1)
  obtain ⟨y0, y1, y2, y3⟩ := HX4.out.cells
  have hf := box4_frozen HX4.out
  have hl := HX4.out.lt
  have HB4 := hide (hb1.trans (hp4.1.mono hb1.size))
  have hs4 := hp4.1.size
  clear hx hb1
  cases r1 with
  | none =>
    obtain ⟨k, fr, ix, a, m, cp, rfl⟩ := hp4.2.2 rfl
    have HN := hide (show r = none from HR.out)
    clear hp4 HR
    go_wp2_with fail
    refine bodyPost_ret (v := .tuple #[.agg #[.int .i64 4, .string ⟨#[]⟩, .int .i64 0, .slice (some ⟨w4.heap.size + 1, 0, none⟩) 1 1], .int .i64 (-1)]) (by simp [results, Try.results42, go_sem, *]) rfl ?_
    exact sp_not HN.out (((below_set4 HB4.out (Nat.le_refl _) _ _ _ _).alloc (by simp; omega) _).alloc (by simp; omega) _)
  | some q =>
    obtain ⟨N, t⟩ := q
    obtain ⟨q, u, bs2, hq, ht, rfl, how, hge, hnd⟩ := hp4.2.1 N t rfl
    have HN := hide (show r = some (ndRec N, t) from HR.out)
    have HOW := hide how
    have HGE := hide hge
    obtain ⟨ua, uc, rfl⟩ := how.val
    clear hp4 HR how hge
    go_wp2_with fail
    refine bodyPost_ret (v := .tuple #[.agg #[.int .i64 4, .string ⟨#[]⟩, .int .i64 0, .slice (some ⟨w4.heap.size + 1, 0, none⟩) 1 1], .int .i64 (q : Nat)]) (by simp [results, Try.results42, go_sem, *]) rfl ?_
    have HF := HFI.out N t rfl
    have hlt := HOW.out.lt
    have hos := ow_set4 (b := w.heap.size) HOW.out (fun x hx => by have := HGE.out x hx; omega) (.int .i64 4) (.string ⟨#[]⟩) (.int .i64 0) (.slice (some ⟨w4.heap.size + 1, 0, none⟩) 1 1)
    have HOS := hide (below_set4 HB4.out (Nat.le_refl _) (.int .i64 4) (.string ⟨#[]⟩) (.int .i64 0) (.slice (some ⟨w4.heap.size + 1, 0, none⟩) 1 1))
    have hss : ((((w4.setCell ⟨w.heap.size, 0, none⟩ (.int .i64 4)).setCell ⟨w.heap.size, 1, none⟩ (.string ⟨#[]⟩)).setCell ⟨w.heap.size, 2, none⟩ (.int .i64 0)).setCell ⟨w.heap.size, 3, none⟩ (.slice (some ⟨w4.heap.size + 1, 0, none⟩) 1 1)).heap.size = w4.heap.size := by simp
    generalize ((((w4.setCell ⟨w.heap.size, 0, none⟩ (.int .i64 4)).setCell ⟨w.heap.size, 1, none⟩ (.string ⟨#[]⟩)).setCell ⟨w.heap.size, 2, none⟩ (.int .i64 0)).setCell ⟨w.heap.size, 3, none⟩ (.slice (some ⟨w4.heap.size + 1, 0, none⟩) 1 1)) = S at *
    have hb : Below S.heap.size S ((S.alloc (.cells #[.int .i64 N.k, .string N.fr, .int .i64 N.ix, .slice ua N.kids.len uc] ( /- t -/ 25))).alloc (.cells #[.string ⟨#[]⟩, .int .i64 N.k, .string N.fr, .int .i64 N.ix, .slice ua N.kids.len uc] ( /- t -/ 65))) := (alloc_below S _).alloc (by simp) _
    have hnew := heap_alloc_new (S.alloc (.cells #[.int .i64 N.k, .string N.fr, .int .i64 N.ix, .slice ua N.kids.len uc] ( /- t -/ 25))) (.cells #[.string ⟨#[]⟩, .int .i64 N.k, .string N.fr, .int .i64 N.ix, .slice ua N.kids.len uc] ( /- t -/ 65))
    rw [show (S.alloc (.cells #[.int .i64 N.k, .string N.fr, .int .i64 N.ix, .slice ua N.kids.len uc] ( /- t -/ 25))).heap.size = w4.heap.size + 1 from by simp [hss]] at hnew
    have how1 := ow_one hnew (hos.same (Same.of_below hb hos.lt)) HF
    refine sp_yes (N := ndRec N) HN.out hq ht (HOS.out.trans (hb.mono (by omega))) how1 (fun x hx => ?_) ?_
    · rcases List.mem_cons.1 hx with rfl | hx
      · omega
      · have := HGE.out x hx; omega
    · exact List.nodup_cons.2 ⟨fun hm => by have := hlt _ hm; omega, hnd⟩
end Go.Proofs.Ytpjbffggeegdaaa.Lo.Ne

/- l2ParseAction of the model. -/
namespace Go.Proofs.Ytpjbffggeegdaaa.Lo.Ne
open Go.RowKit

def SpRel (T : List UInt8) (g : List UInt8 → Option (Nd × List UInt8)) (R : Option (F × List UInt8)) (kk : Int) (pr : ByteArray) (A : Nat) (w : World) (iv : Value) (wr : World) : Prop :=
  ∃ (j q : Nat) (acc : F) (v : Value) (bs : List Nat), iv = .int .i64 (q : Nat) ∧ q ≤ T.length ∧ Box4 wr A (.int .i64 kk) (.string pr) (.int .i64 0) v ∧ Gr wr (A + 1) v acc bs ∧ acc.len + j = 5 ∧ spB g j (T.drop q) acc = R ∧ Below w.heap.size w wr ∧ Box4 wr w.heap.size (.int .i64 0) (.string ⟨#[]⟩) (.int .i64 0) (.slice none 0 0)
def bxLen (w : World) (A : Nat) : Nat :=
  match w.cell? ⟨A, 3, none⟩ with
  | some (.slice _ n _) => n
  | _ => 0
theorem bxLen_eq {w : World} {A : Nat} {v0 v1 v2 : Value} {a : Option Addr} {n c : Nat} (h : Box4 w A v0 v1 v2 (.slice a n c)) : bxLen w A = n := by
  unfold bxLen
  rw [h.cells.2.2.2]
theorem exB_yes {T : List UInt8} {q : Nat} (hq : q < T.length) (hc : hdC (T.drop q) = 125) (acc : F) : exB (T.drop q) acc = some (acc, T.drop (q + 1)) := by
  obtain ⟨-, -, hdr⟩ := head_at hq
  rw [hdr, hc]
  rfl
theorem exB_end {T : List UInt8} {q : Nat} (hq : T.length ≤ q) (acc : F) : exB (T.drop q) acc = none := by
  rw [List.drop_eq_nil_of_le hq]
  rfl
theorem exB_no {T : List UInt8} {q : Nat} (hq : q < T.length) (hc : hdC (T.drop q) ≠ 125) (acc : F) : exB (T.drop q) acc = none := by
  obtain ⟨-, -, hdr⟩ := head_at hq
  generalize hdC (T.drop q) = c at *
  rw [hdr]
  unfold exB
  rw [if_neg (by simpa [nxC] using hc)]
theorem goes_iff {T : List UInt8} {q : Nat} : goesB (T.drop q) = true ↔ (q + 1 < T.length ∧ (hdC (T.drop q) = 123 ∨ hdC (T.drop q) = 124)) := by
  by_cases hq : q < T.length
  · obtain ⟨-, -, hdr⟩ := head_at hq
    have hl : (T.drop (q + 1)).length = T.length - (q + 1) := List.length_drop
    generalize hdC (T.drop q) = c at *
    rw [hdr]
    have e : (!(T.drop (q + 1)).isEmpty) = true ↔ q + 1 < T.length := by
      cases h : T.drop (q + 1) with
      | nil => rw [h] at hl; simp at hl ⊢; omega
      | cons a b => rw [h] at hl; simp at hl ⊢; omega
    unfold goesB
    rw [Bool.and_eq_true]
    simp only [List.tail_cons, nxC, Bool.or_eq_true, beq_iff_eq]
    rw [e]
    exact And.comm
  · rw [List.drop_eq_nil_of_le (by omega)]
    constructor
    · intro h; cases h
    · intro h; omega
end Go.Proofs.Ytpjbffggeegdaaa.Lo.Ne

/- How large the unfolding of a small tree may get, if it is not high: the recursions at the root are reached by jumps to ever outer ones, and each jump costs levels. -/
namespace Go.Proofs.Ytpjbffggeegdaaa.Lo
open Go.RowKit

/-- Sums, from the front. -/
def sm : Nat → (Nat → Nat) → Nat
  | 0, _ => 0
  | n + 1, o => o 0 + sm n (fun v => o (v + 1))
theorem sm_le : ∀ (n : Nat) (a b : Nat → Nat), (∀ v, v < n → a v ≤ b v) → sm n a ≤ sm n b
  | 0, _, _, _ => Nat.le_refl _
  | n + 1, a, b, h => by
    have h0 := h 0 (by omega)
    have h1 := sm_le n (fun v => a (v + 1)) (fun v => b (v + 1)) (fun v hv => h (v + 1) (by omega))
    simp only [sm]
    omega
theorem sm_add : ∀ (n : Nat) (a b : Nat → Nat), sm n (fun v => a v + b v) = sm n a + sm n b
  | 0, _, _ => rfl
  | n + 1, a, b => by
    have h1 := sm_add n (fun v => a (v + 1)) (fun v => b (v + 1))
    simp only [sm]
    omega
theorem sm_zero : ∀ (n : Nat) (a : Nat → Nat), (∀ v, v < n → a v = 0) → sm n a = 0
  | 0, _, _ => rfl
  | n + 1, a, h => by
    have h0 := h 0 (by omega)
    have h1 := sm_zero n (fun v => a (v + 1)) (fun v hv => h (v + 1) (by omega))
    simp only [sm]
    omega
theorem sm_pick : ∀ (n v0 : Nat) (a : Nat → Nat), v0 < n → sm n (fun v => if v = v0 then a v else 0) = a v0
  | 0, v0, _, h => by omega
  | n + 1, 0, a, _ => by
    have h1 := sm_zero n (fun v => if v + 1 = 0 then a (v + 1) else 0) (fun v _ => if_neg (by omega))
    simp only [sm]
    rw [h1]
    simp
  | n + 1, v0 + 1, a, h => by
    have h1 := sm_pick n v0 (fun v => a (v + 1)) (by omega)
    simp only [sm]
    rw [if_neg (by omega), Nat.zero_add, ← h1]
    congr 1
    funext v
    by_cases hv : v = v0
    · rw [if_pos hv, if_pos (by omega)]
    · rw [if_neg hv, if_neg (by omega)]
theorem sm_mul (c : Nat) : ∀ (n : Nat) (a : Nat → Nat), sm n (fun v => c * a v) = c * sm n a
  | 0, _ => rfl
  | n + 1, a => by
    have h1 := sm_mul c n (fun v => a (v + 1))
    simp only [sm]
    rw [h1, Nat.mul_add]

/-- So many of n things. -/
def ch : Nat → Nat → Nat
  | _, 0 => 1
  | 0, _ + 1 => 0
  | n + 1, q + 1 => ch n (q + 1) + ch n q
theorem ch_zero (n : Nat) : ch n 0 = 1 := by cases n <;> rfl
theorem ch_mul : ∀ (n q : Nat), (q + 1) * ch n (q + 1) ≤ n * ch n q
  | 0, q => by simp [ch]
  | n + 1, 0 => by
    have h := ch_mul n 0
    rw [ch_zero] at h ⊢
    simp only [ch, ch_zero]
    omega
  | n + 1, q + 1 => by
    have h := ch_mul n (q + 1)
    have h2 := ch_mul n q
    simp only [ch]
    generalize ch n (q + 1 + 1) = x at h ⊢
    generalize ch n (q + 1) = y at h h2 ⊢
    generalize ch n q = z at h2 ⊢
    have e1 : (q + 1 + 1) * (x + y) = (q + 1 + 1) * x + (q + 1) * y + y := by
      rw [Nat.mul_add, Nat.add_mul (q + 1) 1 y]; omega
    have e2 : (n + 1) * (y + z) = n * y + y + (n * z + z) := by
      rw [Nat.mul_add, Nat.add_mul n 1 y, Nat.add_mul n 1 z]; omega
    rw [e1, e2]
    omega

/-- Fewer than r of n things. -/
def zz : Nat → Nat → Nat
  | 0, _ => 0
  | r + 1, n => zz r n + ch n r
theorem zz_at_zero : ∀ r, zz (r + 1) 0 = 1
  | 0 => rfl
  | r + 1 => by
    have := zz_at_zero r
    show zz (r + 1) 0 + ch 0 (r + 1) = 1
    rw [this]; rfl
theorem zz_pascal : ∀ (r n : Nat), zz (r + 1) (n + 1) = zz (r + 1) n + zz r n
  | 0, n => by
    show zz 0 (n + 1) + ch (n + 1) 0 = zz 0 n + ch n 0 + zz 0 n
    rw [ch_zero, ch_zero]; rfl
  | r + 1, n => by
    have := zz_pascal r n
    show zz (r + 1) (n + 1) + ch (n + 1) (r + 1) = zz (r + 1) n + ch n (r + 1) + (zz r n + ch n r)
    rw [this]
    simp only [ch]
    omega
theorem zz_mono1 (r n : Nat) : zz r n ≤ zz r (n + 1) := by
  cases r with
  | zero => exact Nat.le_refl _
  | succ r => rw [zz_pascal]; omega
theorem zz_mono (r n : Nat) : ∀ d, zz r n ≤ zz r (n + d)
  | 0 => Nat.le_refl _
  | d + 1 => Nat.le_trans (zz_mono r n d) (zz_mono1 r (n + d))
theorem zz_step (r n : Nat) : ∀ o, zz (r + 1) n + o * zz r n ≤ zz (r + 1) (o + n)
  | 0 => by simp
  | o + 1 => by
    have h := zz_step r n o
    have h2 := zz_mono r n o
    rw [show o + 1 + n = (o + n) + 1 by omega, zz_pascal, Nat.add_mul, Nat.add_comm o n]
    rw [Nat.add_comm o n] at h
    omega
theorem zz8 (n : Nat) (h : n ≤ 400) : zz 8 n ≤ 400000000000000 := by
  have hs : ∀ q, (q + 1) * ch n (q + 1) ≤ 400 * ch n q := fun q => Nat.le_trans (ch_mul n q) (Nat.mul_le_mul_right _ h)
  have h0 := ch_zero n
  have h1 := hs 0
  have h2 := hs 1
  have h3 := hs 2
  have h4 := hs 3
  have h5 := hs 4
  have h6 := hs 5
  have h7 := hs 6
  simp only [Nat.reduceAdd] at h1 h2 h3 h4 h5 h6 h7
  simp only [zz]
  omega

/-- The sum behind an index. -/
def tl : Nat → (Nat → Nat) → Nat → Nat
  | 0, _, _ => 0
  | n + 1, o, 0 => sm n (fun v => o (v + 1))
  | n + 1, o, v + 1 => tl n (fun v => o (v + 1)) v
theorem abel (r : Nat) : ∀ (n : Nat) (o : Nat → Nat), sm n (fun v => o v * zz r (tl n o v)) + 1 ≤ zz (r + 1) (sm n o)
  | 0, _ => by simp only [sm]; rw [zz_at_zero]; omega
  | n + 1, o => by
    have h := abel r n (fun v => o (v + 1))
    have h2 := zz_step r (sm n (fun v => o (v + 1))) (o 0)
    simp only [sm, tl]
    omega

/-- Levels for r jumps from below j recursions at the root. -/
def th : Nat → Nat → Nat
  | 0, j => j
  | r + 1, j => j + 1 + th r (j + 1)
theorem th_mono : ∀ (r j d : Nat), th r j ≤ th r (j + d)
  | 0, j, d => by simp only [th]; omega
  | r + 1, j, d => by
    have := th_mono r (j + 1) d
    simp only [th]
    rw [show j + d + 1 = j + 1 + d by omega]
    omega
theorem th8 (j : Nat) : 40 ≤ th 8 j := by
  simp only [th]
  omega

/-- The variables with index v. -/
def occ : F → Nat → Nat
  | .nil, _ => 0
  | .cons _ k _ ix kids rest, v => (if k = 5 then (if ix.toNat = v then 1 else 0) else if k = 4 then occ kids (v + 1) else occ kids v) + occ rest v
def occN (g : Nd) (v : Nat) : Nat := if g.k = 5 then (if g.ix.toNat = v then 1 else 0) else if g.k = 4 then occ g.kids (v + 1) else occ g.kids v
theorem sm_one (n v0 : Nat) (j : Nat) : sm n (fun v => if v0 = j + v then 1 else 0) ≤ 1 := by
  by_cases h : j ≤ v0 ∧ v0 - j < n
  · have := sm_pick n (v0 - j) (fun _ => 1) h.2
    refine Nat.le_trans (sm_le n _ (fun v => if v = v0 - j then 1 else 0) (fun v _ => ?_)) (Nat.le_of_eq this)
    show (if v0 = j + v then 1 else 0) ≤ (if v = v0 - j then 1 else 0)
    by_cases e : v0 = j + v
    · rw [if_pos e, if_pos (by omega)]
      exact Nat.le_refl _
    · rw [if_neg e]
      exact Nat.zero_le _
  · rw [sm_zero n _ (fun v hv => if_neg (by omega))]
    omega
theorem occ_sum : ∀ (f : F) (n j : Nat), sm n (fun v => occ f (j + v)) ≤ f.sz := by
  intro f
  induction f with
  | nil => intro n j; exact Nat.le_of_eq (sm_zero n _ (fun _ _ => rfl))
  | cons lab k fr ix kids rest ihk ihr =>
    intro n j
    have hr := ihr n j
    have hk := ihk n j
    have hk4 := ihk n (j + 1)
    simp only [occ]
    rw [sm_add]
    simp only [F.sz]
    by_cases h5 : k = 5
    · simp only [if_pos h5]
      have := sm_one n ix.toNat j
      omega
    · simp only [if_neg h5]
      by_cases h4 : k = 4
      · simp only [if_pos h4]
        have e : (fun v => occ kids (j + v + 1)) = fun v => occ kids (j + 1 + v) := by
          funext v; rw [show j + v + 1 = j + 1 + v by omega]
        rw [e]
        omega
      · simp only [if_neg h4]
        omega
theorem occN_sum (g : Nd) (n : Nat) : sm n (occN g) ≤ g.kids.sz + 1 := by
  have := occ_sum (.cons ⟨#[]⟩ g.k g.fr g.ix g.kids .nil) n 0
  simp only [occ, F.sz, Nat.zero_add, Nat.add_zero] at this
  exact this

/-- The size of what stands at an index. -/
def szO (s : List (Option Nd)) (v : Nat) : Nat := match (s[v]?).join with | some U => U.kids.sz | none => 0
/-- The size of a copy. -/
theorem cp_sz (s : List (Option Nd)) (hs : VaS s) : ∀ (f : F) (j : Nat) (u : Int), 0 ≤ u → wF f ((j + s.length : Nat) : Int) u = true →
    (cpF (kept j ++ s) f).sz ≤ f.sz + sm s.length (fun v => occ f (j + v) * szO s v) := by
  intro f
  induction f with
  | nil => intro j u _ _; simp only [cpF, F.sz]; omega
  | cons lab k fr ix kids rest ihk ihr =>
    intro j u hu h
    simp only [wF, Bool.and_eq_true] at h
    obtain ⟨⟨h1, h2⟩, h3⟩ := h
    have hr := ihr j u hu h3
    have hsum : ∀ x : Nat → Nat, sm s.length (fun v => (x v + occ rest (j + v)) * szO s v) = sm s.length (fun v => x v * szO s v) + sm s.length (fun v => occ rest (j + v) * szO s v) := by
      intro x
      rw [← sm_add]
      congr 1
      funext v
      rw [Nat.add_mul]
    rw [cpF_cons]
    simp only [occ, F.sz]
    rw [hsum]
    by_cases h5 : k = 5
    · subst h5
      have hn := shape_leaf h1 (by decide) (by decide)
      subst hn
      simp only [if_true, Bool.and_eq_true, decide_eq_true_eq] at h2 ⊢
      have hcp : (cpN (kept j ++ s) ⟨5, fr, ix, .nil⟩).kids.sz ≤ sm s.length (fun v => (if ix.toNat = j + v then 1 else 0) * szO s v) := by
        simp only [cpN, if_true]
        by_cases hlt : ix.toNat < j
        · rw [kept_get j _ hlt]
          simp only [cpF, F.sz]
          exact Nat.zero_le _
        · have hx : ((kept j ++ s)[ix.toNat]?).join = (s[ix.toNat - j]?).join := by
            unfold kept
            rw [List.getElem?_append_right (by simp; omega)]
            simp
          have hlen : ix.toNat - j < s.length := by omega
          have hp := sm_pick s.length (ix.toNat - j) (szO s) hlen
          have he : sm s.length (fun v => (if ix.toNat = j + v then 1 else 0) * szO s v) = szO s (ix.toNat - j) := by
            rw [← hp]
            congr 1
            funext v
            by_cases e : ix.toNat = j + v
            · rw [if_pos e, if_pos (by omega), Nat.one_mul]
            · rw [if_neg e, if_neg (by omega), Nat.zero_mul]
          rw [he, hx]
          obtain ⟨U, eU, _⟩ := hs.join hlen
          unfold szO
          rw [eU]
          exact Nat.le_refl _
      omega
    · simp only [if_neg h5] at h2 ⊢
      simp only [cpN, if_neg h5]
      by_cases h4 : k = 4
      · simp only [if_pos h4] at h2 ⊢
        have hk := ihk (j + 1) (u + 1) (by omega) (by rw [show ((j + 1 + s.length : Nat) : Int) = ((j + s.length : Nat) : Int) + 1 by omega]; exact h2)
        rw [kept_succ]
        have e : (fun v => occ kids (j + v + 1) * szO s v) = fun v => occ kids (j + 1 + v) * szO s v := by
          funext v; rw [show j + v + 1 = j + 1 + v by omega]
        rw [e]
        omega
      · simp only [if_neg h4] at h2 ⊢
        by_cases h23 : k = 2 ∨ k = 3
        · rw [if_pos h23] at h2
          have hk := ihk j 0 (by omega) h2
          omega
        · have hn := shape_leaf h1 h23 h4
          subst hn
          simp only [cpF, F.sz]
          omega
theorem cpN_sz (s : List (Option Nd)) (hs : VaS s) (g : Nd) (u : Int) (hu : 0 ≤ u) (h : wN g (s.length : Int) u = true) :
    (cpN s g).kids.sz ≤ g.kids.sz + sm s.length (fun v => occN g v * szO s v) := by
  obtain ⟨k, fr, ix, kids⟩ := g
  have h9 := cp_sz s hs (.cons ⟨#[]⟩ k fr ix kids .nil) 0 u hu (by simp only [wF, Bool.and_true, Nat.zero_add]; exact h)
  rw [cpF_cons] at h9
  simp only [kept, List.replicate_zero, List.nil_append, cpF, F.sz, occ, Nat.zero_add, Nat.add_zero] at h9
  have e : (fun v => (if k = 5 then (if ix.toNat = v then 1 else 0) else if k = 4 then occ kids (v + 1) else occ kids v) * szO s v) = fun v => occN ⟨k, fr, ix, kids⟩ v * szO s v := by
    funext v; rfl
  rw [e] at h9
  show (cpN s ⟨k, fr, ix, kids⟩).kids.sz ≤ kids.sz + sm s.length (fun v => occN ⟨k, fr, ix, kids⟩ v * szO s v)
  omega

/-- The recursions at the root. -/
def rk : F → Nat
  | .nil => 0
  | .cons _ k _ _ kids _ => if k = 4 then 1 + rk kids else 0
def rkN (g : Nd) : Nat := if g.k = 4 then 1 + rk g.kids else 0
/-- What stands for a variable lies in the copy. -/
theorem cp_in (s : List (Option Nd)) {v : Nat} {U : Nd} (hU : (s[v]?).join = some U) : ∀ (f : F) (j : Nat), 0 < occ f (j + v) → hN U ≤ hF (cpF (kept j ++ s) f) := by
  intro f
  induction f with
  | nil => intro j h; simp [occ] at h
  | cons lab k fr ix kids rest ihk ihr =>
    intro j h
    simp only [occ] at h
    rw [cpF_cons]
    simp only [hF]
    by_cases hr : 0 < occ rest (j + v)
    · have := ihr j hr
      omega
    · by_cases h5 : k = 5
      · rw [if_pos h5] at h
        by_cases e : ix.toNat = j + v
        · have hx : ((kept j ++ s)[ix.toNat]?).join = some U := by
            rw [e]
            unfold kept
            rw [List.getElem?_append_right (by simp)]
            simpa using hU
          simp only [cpN, if_pos h5]
          rw [hx]
          simp only [hN]
          omega
        · rw [if_neg e] at h
          omega
      · rw [if_neg h5] at h
        simp only [cpN, if_neg h5]
        by_cases h4 : k = 4
        · rw [if_pos h4] at h
          simp only [if_pos h4]
          rw [kept_succ]
          have := ihk (j + 1) (by rw [show j + 1 + v = j + v + 1 by omega]; omega)
          omega
        · rw [if_neg h4] at h
          simp only [if_neg h4]
          have := ihk j (by omega)
          omega
/-- .. below all recursions at the root and the action behind them. -/
theorem cp_deep (s : List (Option Nd)) {v : Nat} {U : Nd} (hU : (s[v]?).join = some U) : ∀ (f : F) (j : Nat) (b u : Int), f.len ≤ 1 → wF f b u = true → ((j : Int) + v < u) → 0 < occ f (j + v) → rk f + 1 + hN U ≤ hF (cpF (kept j ++ s) f) := by
  intro f
  induction f with
  | nil => intro j b u _ _ _ h; simp [occ] at h
  | cons lab k fr ix kids rest ihk _ =>
    intro j b u hlen hw hju h
    have hrn : rest = .nil := nil_of_len (by simp only [F.len] at hlen; omega)
    subst hrn
    simp only [wF, Bool.and_eq_true, Bool.and_true] at hw
    obtain ⟨h1, h2⟩ := hw
    simp only [occ, Nat.add_zero] at h
    rw [cpF_cons]
    simp only [hF, rk]
    by_cases h5 : k = 5
    · exfalso
      rw [if_pos h5] at h h2
      simp only [Bool.and_eq_true, decide_eq_true_eq] at h2
      by_cases e : ix.toNat = j + v
      · omega
      · rw [if_neg e] at h
        omega
    · rw [if_neg h5] at h h2
      simp only [cpN, if_neg h5]
      by_cases h4 : k = 4
      · rw [if_pos h4] at h h2
        simp only [if_pos h4]
        rw [kept_succ]
        have hl : kids.len ≤ 1 := by
          subst h4
          simp [shapeB] at h1
          omega
        have := ihk (j + 1) (b + 1) (u + 1) hl h2 (by omega) (by rw [show j + 1 + v = j + v + 1 by omega]; omega)
        omega
      · rw [if_neg h4] at h
        simp only [if_neg h4]
        have := cp_in s hU kids j (by omega)
        omega
theorem rec_ne {fr : ByteArray} {ix : Int} {kids : F} (h : shapeB 4 fr ix kids = true) : kids ≠ .nil := by
  rintro rfl
  simp [shapeB, F.len] at h
theorem rk_h : ∀ (f : F) (b u : Int) (s : List (Option Nd)), wF f b u = true → f ≠ .nil → rk f + 1 ≤ hF (cpF s f) := by
  intro f
  induction f with
  | nil => intro b u s _ h; exact absurd rfl h
  | cons lab k fr ix kids rest ihk _ =>
    intro b u s hw _
    simp only [wF, Bool.and_eq_true] at hw
    obtain ⟨⟨h1, h2⟩, -⟩ := hw
    rw [cpF_cons]
    simp only [rk, hF]
    by_cases h4 : k = 4
    · have h5 : ¬ k = 5 := by omega
      rw [if_neg h5, if_pos h4] at h2
      have hne : kids ≠ .nil := by
        rw [h4] at h1
        exact rec_ne h1
      simp only [if_pos h4, cpN, if_neg h5]
      have := ihk (b + 1) (u + 1) (none :: s) h2 hne
      omega
    · rw [if_neg h4]; omega
theorem rkN_h (g : Nd) (b u : Int) (s : List (Option Nd)) (hw : wN g b u = true) : rkN g + 1 ≤ hN (cpN s g) := by
  obtain ⟨k, fr, ix, kids⟩ := g
  have h9 := rk_h (.cons ⟨#[]⟩ k fr ix kids .nil) b u s (by simp only [wF, Bool.and_true]; exact hw) (by simp)
  rw [cpF_cons] at h9
  simp only [cpF, hF, rk, Nat.max_zero] at h9
  show (if k = 4 then 1 + rk kids else 0) + 1 ≤ 1 + hF (cpN s ⟨k, fr, ix, kids⟩).kids
  omega
theorem cpN_deep (s : List (Option Nd)) {v : Nat} {U : Nd} (hU : (s[v]?).join = some U) (g : Nd) (b u : Int) (hw : wN g b u = true) (hv : (v : Int) < u) (h : 0 < occN g v) : rkN g + 1 + hN U ≤ hN (cpN s g) := by
  obtain ⟨k, fr, ix, kids⟩ := g
  have h9 := cp_deep s hU (.cons ⟨#[]⟩ k fr ix kids .nil) 0 b u (by simp [F.len]) (by simp only [wF, Bool.and_true]; exact hw) (by omega) (by simp only [occ, Nat.zero_add, Nat.add_zero]; exact h)
  rw [cpF_cons] at h9
  simp only [kept, List.replicate_zero, List.nil_append, cpF, hF, rk, Nat.max_zero] at h9
  show (if k = 4 then 1 + rk kids else 0) + 1 + hN U ≤ 1 + hF (cpN s ⟨k, fr, ix, kids⟩).kids
  omega

/-- What is known of the nodes of the environment. -/
def SzInv (s : List (Option Nd)) (g : Nd) : Prop :=
  ∀ v U, (s[v]?).join = some U → ∀ r, hN U ≤ th r (rkN g + 1 + v) → U.kids.sz + 1 ≤ 400 * zz r (tl s.length (occN g) v)

theorem szv_node {s : List (Option Nd)} {g : Nd} (hs : VaS s) (hi : SzInv s g) (hw : wN g (s.length : Int) (s.length : Int) = true) (hg : g.kids.sz + 1 ≤ 400) :
    ∀ r, hN (cpN s g) ≤ th r (rkN g) → (cpN s g).kids.sz + 1 ≤ 400 * zz r (sm s.length (occN g)) := by
  intro r hr
  cases r with
  | zero =>
    have := rkN_h g _ _ s hw
    simp only [th] at hr
    omega
  | succ r =>
    have h1 := cpN_sz s hs g _ (by omega) hw
    have h2 : sm s.length (fun v => occN g v * szO s v) ≤ sm s.length (fun v => 400 * (occN g v * zz r (tl s.length (occN g) v))) := by
      refine sm_le _ _ _ (fun v hv => ?_)
      by_cases ho : 0 < occN g v
      · obtain ⟨U, eU, _⟩ := hs.join hv
        have hd := cpN_deep s eU g _ _ hw (by omega) ho
        simp only [th] at hr
        have hm := th_mono r (rkN g + 1) v
        have := hi v U eU r (by omega)
        have e : szO s v = U.kids.sz := by unfold szO; rw [eU]
        rw [e, Nat.mul_left_comm]
        exact Nat.mul_le_mul_left _ (by omega)
      · rw [show occN g v = 0 by omega]
        simp
    rw [sm_mul 400] at h2
    have h3 := abel r s.length (occN g)
    have h4 : 400 * (sm s.length (fun v => occN g v * zz r (tl s.length (occN g) v)) + 1) ≤ 400 * zz (r + 1) (sm s.length (occN g)) := Nat.mul_le_mul_left _ h3
    omega

theorem szv_step {s : List (Option Nd)} {g : Nd} (hs : VaS s) (hi : SzInv s g) (hw : wN g (s.length : Int) (s.length : Int) = true) (hg : g.kids.sz + 1 ≤ 400) (h4 : g.k = 4)
    {lab fr : ByteArray} {k ix : Int} {kids : F} (hk : g.kids = .cons lab k fr ix kids .nil) : SzInv (some (cpN s g) :: s) ⟨k, fr, ix, kids⟩ := by
  have hocc : ∀ v, occN ⟨k, fr, ix, kids⟩ (v + 1) = occN g v := by
    intro v
    unfold occN
    rw [if_neg (show ¬ g.k = 5 by omega), if_pos h4, hk]
    simp only [occ, Nat.add_zero]
  have hrk : rkN g = 1 + rkN ⟨k, fr, ix, kids⟩ := by
    unfold rkN
    rw [if_pos h4, hk]
    simp only [rk]
  have hfun : (fun v => occN ⟨k, fr, ix, kids⟩ (v + 1)) = occN g := funext hocc
  intro v U hU r hr
  cases v with
  | zero =>
    have e : cpN s g = U := by simpa using hU
    subst e
    have := szv_node hs hi hw hg r (by rw [hrk, Nat.add_comm]; exact hr)
    simp only [List.length_cons, tl]
    rw [hfun]
    exact this
  | succ v =>
    have hU' : (s[v]?).join = some U := by simpa using hU
    have := hi v U hU' r (by rw [hrk]; rw [show 1 + rkN ⟨k, fr, ix, kids⟩ + 1 + v = rkN ⟨k, fr, ix, kids⟩ + 1 + (v + 1) by omega]; exact hr)
    simp only [List.length_cons, tl]
    rw [hfun]
    exact this

theorem unfN_sz : ∀ (n : Nat) (s : List (Option Nd)) (g : Nd), VaS s → SzInv s g → wN g (s.length : Int) (s.length : Int) = true → g.kids.sz + 1 ≤ 400 →
    hN (unfN n s g) ≤ 40 → (unfN n s g).kids.sz + 1 ≤ 160000000000000000 := by
  have key : ∀ (s : List (Option Nd)) (g : Nd), VaS s → SzInv s g → wN g (s.length : Int) (s.length : Int) = true → g.kids.sz + 1 ≤ 400 →
      hN (cpN s g) ≤ 40 → (cpN s g).kids.sz + 1 ≤ 160000000000000000 := by
    intro s g hs hi hw hg hh
    have h1 := szv_node hs hi hw hg 8 (Nat.le_trans hh (th8 _))
    have h2 := occN_sum g s.length
    have h3 := zz8 (sm s.length (occN g)) (by omega)
    omega
  intro n
  induction n with
  | zero => intro s g hs hi hw hg hh; exact key s g hs hi hw hg hh
  | succ n ih =>
    intro s g hs hi hw hg hh
    unfold unfN at hh ⊢
    by_cases h3 : g.k = 4
    · rw [if_pos h3] at hh ⊢
      cases hk : g.kids with
      | nil => rw [hk] at hh; exact key s g hs hi hw hg hh
      | cons lab k fr ix kids rest =>
        rw [hk] at hh
        simp only at hh ⊢
        have hw0 := hw
        unfold wN at hw
        simp only [Bool.and_eq_true] at hw
        have hrn : rest = .nil := by
          have h1 := hw.1
          rw [h3, hk] at h1
          simp [shapeB, F.len] at h1
          exact nil_of_len (by omega)
        subst hrn
        refine ih _ _ ?_ (szv_step hs hi hw0 hg h3 hk) ?_ ?_ hh
        · intro x hx
          rcases List.mem_cons.1 hx with rfl | hx
          · exact ⟨_, rfl, cpN_w s hs g (wN_u _ _ _ _ hw0 (by omega))⟩
          · exact hs x hx
        · have h2 := hw.2
          rw [if_neg (by omega), if_pos h3, hk] at h2
          simp only [wF, Bool.and_eq_true] at h2
          unfold wN
          simp only [Bool.and_eq_true]
          rw [show (((some (cpN s g) :: s).length : Nat) : Int) = (s.length : Int) + 1 by simp]
          exact h2.1
        · rw [hk] at hg
          simp only [F.sz] at hg
          show kids.sz + 1 ≤ 400
          omega
    · rw [if_neg h3] at hh ⊢
      exact key s g hs hi hw hg hh
theorem unf_sz (g : Nd) (hw : wN g 0 0 = true) (hg : g.kids.sz + 1 ≤ 400) (hh : hN (unf g) ≤ 40) : (unf g).kids.sz + 1 ≤ 160000000000000000 := by
  refine unfN_sz _ [] g (fun x hx => by simp at hx) (fun v U hU => by simp at hU) (by simpa using hw) hg hh
end Go.Proofs.Ytpjbffggeegdaaa.Lo

/- l2Unfold of the model. -/
namespace Go.Proofs.Ytpjbffggeegdaaa.Lo
open Go.RowKit

/-- The loop's relation in memory. -/
def UlRel (w : World) (T : Nd) (n : Nat) (wr : World) : Prop :=
  ∃ s N sv, UlIs T n s N ∧ Box4 wr w.heap.size (.int .i64 (cpN s N).k) (.string (cpN s N).fr) (.int .i64 (cpN s N).ix) sv ∧
    Sl wr sv (cpN s N).kids ∧ Fit (cpN s N) ∧ Box4 wr (w.heap.size + 1) (.int .i64 0) (.string ⟨#[]⟩) (.int .i64 0) (.slice none 0 0) ∧ Below w.heap.size w wr

set_option maxHeartbeats 2000000 in
set_option maxRecDepth 100000 in
/-- l1Unfold of the model. -/
theorem unf_calls (w : World) (g : Nd) (sv : Value) (hs : Sl w sv g.kids) (hw : wN g 0 0 = true) (hh : hN g ≤ 40) (hf : Fit g) :
    Calls Try.prog 15 #[.agg #[.int .i64 g.k, .string g.fr, .int .i64 g.ix, sv]] w (MadeN (unf g).k (unf g).fr (unf g).ix (unf g).kids w) := by
  have HST : Hid (UlRel w (unf g) (g.kids.sz + 1) ((w.alloc (.cells #[.int .i64 g.k, .string g.fr, .int .i64 g.ix, sv] ( /- t -/ 25))).alloc (.cells #[.int .i64 0, .string ⟨#[]⟩, .int .i64 0, .slice none 0 0] ( /- t -/ 25)))) := by
    have h1 := (Box4.now w (.int .i64 g.k) (.string g.fr) (.int .i64 g.ix) sv ( /- t -/ 25)).below (alloc_below _ (.cells #[.int .i64 0, .string ⟨#[]⟩, .int .i64 0, .slice none 0 0] ( /- t -/ 25)))
    have h2 := Box4.now (w.alloc (.cells #[.int .i64 g.k, .string g.fr, .int .i64 g.ix, sv] ( /- t -/ 25))) (.int .i64 0) (.string ⟨#[]⟩) (.int .i64 0) (.slice none 0 0) ( /- t -/ 25)
    rw [show (w.alloc (.cells #[.int .i64 g.k, .string g.fr, .int .i64 g.ix, sv] ( /- t -/ 25))).heap.size = w.heap.size + 1 from by simp] at h2
    have h3 := (alloc_below w (.cells #[.int .i64 g.k, .string g.fr, .int .i64 g.ix, sv] ( /- t -/ 25))).alloc (by simp) (.cells #[.int .i64 0, .string ⟨#[]⟩, .int .i64 0, .slice none 0 0] ( /- t -/ 25))
    refine hide ⟨[], g, sv, UlIs.start hw hh, ?_, ?_, ?_, h2, h3⟩
    · rw [cpN_nil]; exact h1
    · rw [cpN_nil]; exact hs.still (Still.of_below h3)
    · rw [cpN_nil]; exact hf
  generalize unf g = T at *
  clear hw hh hf hs
  go_enter Try.func15, Try.ntmps15
  go_wp2_with fail
  go_loopg [3] (g.kids.sz + 1) (fun n v wr => UlRel w T n wr)
  case atStart => exact HST.out
  case round =>
    obtain ⟨s, N, sv', hul, hx, hsl, hft, hz, hb⟩ := hrel
    obtain ⟨x0, x1, x2, x3⟩ := hx.cells
    have fx := hx.frozen
    have hxl := hx.lt
    have hnv := not_var hul.w
    by_cases h3 : N.k = 4
    · have hk : (cpN s N).k = 4 := by rw [cpN_k hnv]; exact h3
      obtain ⟨lab, k', fr', ix', kids', hkid, hw'⟩ := rec_kid hul.w h3
      obtain ⟨C, hC⟩ : ∃ C, C = cpN s N := ⟨_, rfl⟩
      obtain ⟨M, hM⟩ : ∃ M, M = cpN (none :: s) ⟨k', fr', ix', kids'⟩ := ⟨_, rfl⟩
      have hCk : C.kids = .cons lab M.k M.fr M.ix M.kids .nil := by
        rw [hC, cpN_k hnv, if_pos h3, hkid, cpF_cons, hM]
        simp only [cpF]
      rw [← hC] at x0 x1 x2 hsl hft hx hk
      obtain ⟨a, cap, rfl, hlen, hat⟩ := hsl.at
      rw [hCk] at hat
      obtain ⟨b', o, rfl, l1, l2, l3, l4, c0, c1, c2, c3, ⟨sv2, c4, hsv⟩, -⟩ := hat.head
      simp only [Nat.zero_mul, Nat.add_zero] at c0 c1 c2 c3 c4
      have hl1 : C.kids.len = 1 := by rw [hCk]; rfl
      cases gk with
      | zero => exact absurd hul.sz (by omega)
      | succ n =>
      have hva := cpN_w s hul.va N (wN_u _ _ _ _ hul.w (by omega))
      rw [← hC] at hva
      have hCh : hN C ≤ 2000 := by
        have h1 := cpN_h (41 * s.length) N s hul.hs
        have h2 := hul.h
        rw [hC]
        omega
      have hMw : ∃ b u, 0 ≤ u ∧ wN M b u = true := by
        have h1 := cp_w s hul.va (.cons ⟨#[]⟩ k' fr' ix' kids' .nil) 1 ((s.length : Int) + 1) (by omega) (by
          rw [show ((1 + s.length : Nat) : Int) = (s.length : Int) + 1 by omega]
          simp only [wF, Bool.and_true]
          exact hw')
        rw [show kept 1 ++ s = none :: s from rfl, cpF_cons, ← hM] at h1
        simp only [wF, cpF, Bool.and_true] at h1
        exact ⟨_, _, by omega, h1⟩
      have hMh : hF M.kids ≤ 4000 := by
        have h1 := cpN_h (41 * s.length) ⟨k', fr', ix', kids'⟩ (none :: s) (fun U hU => by
          rcases List.mem_cons.1 hU with h | h
          · cases h
          · exact hul.hs U h)
        have h2 := hul.h
        have h3 : hN N = 1 + (1 + hF kids') := by unfold hN; rw [hkid]; simp [hF]
        rw [← hM] at h1
        unfold hN at h1 h2 h3
        simp only at h1
        omega
      have hstep := hul.step h3 (by rw [← hC]; exact hft) hkid hw'
      rw [← hC] at hstep
      have hsub : subN C M 0 = cpN (some C :: s) ⟨k', fr', ix', kids'⟩ := by
        rw [hM]
        exact sub_cpN C s hul.va.cl _ _ (scN_of_w _ _ _ (by omega) hw')
      have hok : CopyOk C := copy_ok C 0 0 (by omega) (by omega) hva hft (by omega)
      have hdr : Still wr wr.drew := fun _ _ h => h
      have HCALL : Hid (Calls Try.prog 27 #[.agg #[.int .i64 M.k, .string M.fr, .int .i64 M.ix, sv2], .agg #[.int .i64 C.k, .string C.fr, .int .i64 C.ix, .slice (some ⟨b', o, none⟩) C.kids.len cap], .int .i64 0] wr.drew (MadeN (subN C M 0).k (subN C M 0).fr (subN C M 0).ix (subN C M 0).kids wr.drew)) :=
        hide (sub_all (M.kids.sz + 1) wr.drew M.k M.ix 0 M.fr sv2 M.kids C _ (Nat.lt_succ_self _) (hsv.still hdr) (hsl.still hdr) ⟨l2, l3, l4⟩ hft (by omega) (by omega) hMw (Or.inr hok))
      have HFM : Hid (Fit (cpN (some C :: s) ⟨k', fr', ix', kids'⟩)) := hide (by rw [← hsub]; exact subN_fit ⟨l2, l3, l4⟩ hft)
      rw [hsub] at HCALL
      have HSTEP := hide hstep
      have HB := hide hb
      have HZ := hide hz
      have HX := hide hx
      have hlt : (0 : Int) < (C.kids.len : Int) := by rw [hl1]; decide
      have hlt2 : 0 < C.kids.len := by omega
      have hq : (C.k == 4) = true := beq_iff_eq.2 hk
      clear hl1 hk hul hsl hft hz hb hx hC hM hCk hat hva hCh hMw hMh hstep hsub hok hdr hsv hkid hw' h3 l1 l2 l3 l4 hlen c0 hnv
      go_wp2_with fail
      refine wp_region_T (fun w' => w'.cell? ⟨w.heap.size, 0, none⟩ = some (.int .i64 C.k) ∧ w'.cell? ⟨w.heap.size, 1, none⟩ = some (.string C.fr) ∧ w'.cell? ⟨w.heap.size, 2, none⟩ = some (.int .i64 C.ix) ∧ w'.cell? ⟨w.heap.size, 3, none⟩ = some (.slice (some ⟨b', o, none⟩) C.kids.len cap) ∧
        w'.cell? ⟨b', o + 1, none⟩ = some (.int .i64 M.k) ∧ w'.cell? ⟨b', o + 2, none⟩ = some (.string M.fr) ∧ w'.cell? ⟨b', o + 3, none⟩ = some (.int .i64 M.ix) ∧ w'.cell? ⟨b', o + 4, none⟩ = some sv2) 7 (by kernel_rfl) ⟨x0, x1, x2, x3, c1, c2, c3, c4⟩ (fun hHeld => ?_)
      refine wpAnyT_take (L := 7) (i := 0) (v := ?v0) rfl (by kernel_rfl) (by kernel_rfl) (by kernel_rfl) (by kernel_rfl) (fun _ _ _ h => h) hHeld (Or.inl ⟨by rfl, ?hy0⟩) ?rest0
      case hy0 => ((intro w' hw'); (try dsimp only at hw'); (go_simp); (try with_reducible rfl))
      (try simp only [Act.put]); (try simp only [List.setIfInBounds_toArray]); (try simp only [List.set_cons_zero]); (try simp only [List.set_cons_succ])
      refine wpAnyT_take (L := 7) (i := 1) (v := ?v1) rfl (by kernel_rfl) (by kernel_rfl) (by kernel_rfl) (by kernel_rfl) (fun _ _ _ h => h) hHeld (Or.inl ⟨by rfl, ?hy1⟩) ?rest1
      case hy1 => ((intro w' hw'); (try dsimp only at hw'); (go_simp); (try with_reducible rfl))
      (try simp only [Act.put]); (try simp only [List.setIfInBounds_toArray]); (try simp only [List.set_cons_zero]); (try simp only [List.set_cons_succ])
      refine wpAnyT_take (L := 7) (i := 2) (v := ?v2) rfl (by kernel_rfl) (by kernel_rfl) (by kernel_rfl) (by kernel_rfl) (fun _ _ _ h => h) hHeld (Or.inl ⟨by rfl, ?hy2⟩) ?rest2
      case hy2 => ((intro w' hw'); (try dsimp only at hw'); (go_simp); (try with_reducible rfl))
      (try simp only [Act.put]); (try simp only [List.setIfInBounds_toArray]); (try simp only [List.set_cons_zero]); (try simp only [List.set_cons_succ])
      refine wpAnyT_take (L := 7) (i := 3) (v := ?v3) rfl (by kernel_rfl) (by kernel_rfl) (by kernel_rfl) (by kernel_rfl) (fun _ _ _ h => h) hHeld (Or.inl ⟨by rfl, ?hy3⟩) ?rest3
      case hy3 => ((intro w' hw'); (try dsimp only at hw'); (go_simp); (try with_reducible rfl))
      (try simp only [Act.put]); (try simp only [List.setIfInBounds_toArray]); (try simp only [List.set_cons_zero]); (try simp only [List.set_cons_succ])
      refine wpAnyT_take (L := 7) (i := 4) (v := ?v4) rfl (by kernel_rfl) (by kernel_rfl) (by kernel_rfl) (by kernel_rfl) (fun _ _ _ h => h) hHeld (Or.inl ⟨by rfl, ?hy4⟩) ?rest4
      case hy4 => ((intro w' hw'); (try dsimp only at hw'); (go_simp); (try with_reducible rfl))
      (try simp only [Act.put]); (try simp only [List.setIfInBounds_toArray]); (try simp only [List.set_cons_zero]); (try simp only [List.set_cons_succ])
      refine wpAnyT_take (L := 7) (i := 5) (v := ?v5) rfl (by kernel_rfl) (by kernel_rfl) (by kernel_rfl) (by kernel_rfl) (fun _ _ _ h => h) hHeld (Or.inl ⟨by rfl, ?hy5⟩) ?rest5
      case hy5 => ((intro w' hw'); (try dsimp only at hw'); (go_simp); (try with_reducible rfl))
      (try simp only [Act.put]); (try simp only [List.setIfInBounds_toArray]); (try simp only [List.set_cons_zero]); (try simp only [List.set_cons_succ])
      refine wpAnyT_one (L := 7) (i := 6) (by kernel_rfl) rfl (fun K hK => ?_)
      go_simp
      go_at_call 27
      (with_reducible refine HCALL.out.mono ?_)
      rintro e w5 ⟨u, ks, rfl, how, hks, hknd, hb5⟩
      obtain ⟨ua, uc, rfl⟩ := how.val
      have hst := Still.of_below hb5
      refine hK.out _ _ (fun _ => ⟨hst _ _ x0, hst _ _ x1, hst _ _ x2, hst _ _ x3, hst _ _ c1, hst _ _ c2, hst _ _ c3, hst _ _ c4⟩) ?_
      clear hK K
      (try simp only [Act.put]); (try simp only [List.setIfInBounds_toArray]); (try simp only [List.set_cons_zero]); (try simp only [List.set_cons_succ])
      have hx5 := (HX.out.same (w' := wr.drew) rfl).below hb5
      obtain ⟨e0, e1, e2, e3⟩ := hx5.cells
      have fe := hx5.frozen
      refine wpAnyT_one (L := 7) (i := 7) (by kernel_rfl) rfl (fun K hK => ?_)
      go_simp
      refine hK.out _ _ (fun h => absurd rfl h) ?_
      refine wpAnyT_done (by kernel_rfl) ?_ _
      clear hK K
      have hzz := (HZ.out.same (w' := wr.drew) rfl).below hb5
      have hbb := HB.out.drew.trans (hb5.mono HB.out.drew.size)
      have hxa := hx5.setAll (.int .i64 (cpN (some C :: s) ⟨k', fr', ix', kids'⟩).k) (.string (cpN (some C :: s) ⟨k', fr', ix', kids'⟩).fr) (.int .i64 (cpN (some C :: s) ⟨k', fr', ix', kids'⟩).ix) (.slice ua (cpN (some C :: s) ⟨k', fr', ix', kids'⟩).kids.len uc)
      have HREL : Hid (UlRel w T n ((((w5.setCell ⟨w.heap.size, 0, none⟩ (.int .i64 (cpN (some C :: s) ⟨k', fr', ix', kids'⟩).k)).setCell ⟨w.heap.size, 1, none⟩ (.string (cpN (some C :: s) ⟨k', fr', ix', kids'⟩).fr)).setCell ⟨w.heap.size, 2, none⟩ (.int .i64 (cpN (some C :: s) ⟨k', fr', ix', kids'⟩).ix)).setCell ⟨w.heap.size, 3, none⟩ (.slice ua (cpN (some C :: s) ⟨k', fr', ix', kids'⟩).kids.len uc))) := by
        have q : ∀ b, b ∈ ks → w.heap.size < b := fun b hb => by have := hks b hb; simp at this; omega
        refine hide ⟨some C :: s, ⟨k', fr', ix', kids'⟩, _, HSTEP.out, hxa, (how.same ?_).sl, HFM.out, ?_, ?_⟩
        · repeat (refine Same.setCell ?_ (fun b h => by have := q b h; simp; omega) _)
          exact Same.refl _ _
        · exact (((hzz.setOther (by simp) _).setOther (by simp) _).setOther (by simp) _).setOther (by simp) _
        · exact (((hbb.setCell (by simp) _).setCell (by simp) _).setCell (by simp) _).setCell (by simp) _
      clear hzz hbb hxa how hks hknd hx5 e0 e1 e2 e3 fe
      go_wp2_with fail
      go_roundg n
      case rel => exact HREL.out
      case measure => omega
    · have hT := hul.stop h3
      have hk : (cpN s N).k ≠ 4 := by rw [cpN_k hnv]; exact h3
      have hva := cpN_w s hul.va N (wN_u _ _ _ _ hul.w (by omega))
      have hTh : hN T ≤ 2000 := by
        have h1 := cpN_h (41 * s.length) N s hul.hs
        have h2 := hul.h
        rw [← hT]
        omega
      rw [hT] at x0 x1 x2 hsl hft hx hk hva
      have HOK : Hid (CopyOk T) := hide (copy_ok T 0 0 (by omega) (by omega) hva hft (by omega))
      have hq : (T.k == 4) = false := beq_eq_false_iff_ne.2 hk
      have HB := hide hb
      have HZ := hide hz
      have HS := hide hsl
      clear hul hft hb hz hx hT hk hva hTh hnv hsl
      go_wp2_with fail
      refine (copy_calls _ T sv' HS.out HOK.out).mono ?_
      rintro e w5 ⟨u, ks, rfl, how, hks, hknd, hb5⟩
      obtain ⟨ua, uc, rfl⟩ := how.val
      have hz5 := HZ.out.below hb5
      obtain ⟨z0, z1, z2, z3⟩ := hz5.cells
      have fz := hz5.frozen
      have HO := hide how
      have HG := hide hks
      have HB5 := hide (HB.out.trans (hb5.mono HB.out.size))
      clear how hks hb5 hz5
      go_wp2_with fail
      refine bodyPost_ret (v := .agg #[.int .i64 T.k, .string T.fr, .int .i64 T.ix, .slice ua T.kids.len uc]) (by simp [results, Try.results15, go_sem, *]) rfl ?_
      have hzl := HZ.out.lt
      have q : ∀ b, b ∈ ks → w.heap.size + 1 < b := fun b h => by have := HG.out b h; omega
      refine ⟨_, ks, rfl, HO.out.same ?_, fun b h => by have := q b h; omega, hknd, ?_⟩
      · repeat (refine Same.setCell ?_ (fun b h => by have := q b h; simp; omega) _)
        exact Same.refl _ _
      · repeat (refine Below.setCell ?_ (by first | (simp; done) | (simp; omega)) _)
        exact HB5.out

end Go.Proofs.Ytpjbffggeegdaaa.Lo

/- What a linked node is, kind by kind, and what the type switches of the program answer. -/
namespace Go.Proofs.Ytpjbffggeegdaaa.Lo
open Go.RowKit

/-! ### The type switch -/
theorem taEndEnd (v : Value) (w : World) : (Instr.typeAssert (.iface ( /- t -/ 85) v) ( /- t -/ 32) ( /- t -/ 85) true).run Try.prog w = .ok (.tuple #[v, .bool true]) w := by kernel_rfl
theorem taVarEnd (v : Value) (w : World) : (Instr.typeAssert (.iface ( /- t -/ 60) v) ( /- t -/ 32) ( /- t -/ 85) true).run Try.prog w = .ok (.tuple #[.agg #[], .bool false]) w := by kernel_rfl
theorem taLoopEnd (v : Value) (w : World) : (Instr.typeAssert (.iface ( /- t -/ 56) v) ( /- t -/ 32) ( /- t -/ 85) true).run Try.prog w = .ok (.tuple #[.agg #[], .bool false]) w := by kernel_rfl
theorem taActEnd (v : Value) (w : World) : (Instr.typeAssert (.iface ( /- t -/ 40) v) ( /- t -/ 32) ( /- t -/ 85) true).run Try.prog w = .ok (.tuple #[.agg #[], .bool false]) w := by kernel_rfl
theorem taVarVar (v : Value) (w : World) : (Instr.typeAssert (.iface ( /- t -/ 60) v) ( /- t -/ 32) ( /- t -/ 60) true).run Try.prog w = .ok (.tuple #[v, .bool true]) w := by kernel_rfl
theorem taLoopVar (v : Value) (w : World) : (Instr.typeAssert (.iface ( /- t -/ 56) v) ( /- t -/ 32) ( /- t -/ 60) true).run Try.prog w = .ok (.tuple #[.agg #[.pointer none], .bool false]) w := by kernel_rfl
theorem taActVar (v : Value) (w : World) : (Instr.typeAssert (.iface ( /- t -/ 40) v) ( /- t -/ 32) ( /- t -/ 60) true).run Try.prog w = .ok (.tuple #[.agg #[.pointer none], .bool false]) w := by kernel_rfl
theorem taLoopLoop (v : Value) (w : World) : (Instr.typeAssert (.iface ( /- t -/ 56) v) ( /- t -/ 32) ( /- t -/ 56) true).run Try.prog w = .ok (.tuple #[v, .bool true]) w := by kernel_rfl
theorem taActLoop (v : Value) (w : World) : (Instr.typeAssert (.iface ( /- t -/ 40) v) ( /- t -/ 32) ( /- t -/ 56) true).run Try.prog w = .ok (.tuple #[.pointer none, .bool false]) w := by kernel_rfl
theorem taActAct (v : Value) (w : World) : (Instr.typeAssert (.iface ( /- t -/ 40) v) ( /- t -/ 32) ( /- t -/ 40) true).run Try.prog w = .ok (.tuple #[v, .bool true]) w := by kernel_rfl
theorem taEndVar (v : Value) (w : World) : (Instr.typeAssert (.iface ( /- t -/ 85) v) ( /- t -/ 32) ( /- t -/ 60) true).run Try.prog w = .ok (.tuple #[.agg #[.pointer none], .bool false]) w := by kernel_rfl
theorem taEndLoop (v : Value) (w : World) : (Instr.typeAssert (.iface ( /- t -/ 85) v) ( /- t -/ 32) ( /- t -/ 56) true).run Try.prog w = .ok (.tuple #[.pointer none, .bool false]) w := by kernel_rfl
theorem taEndAct (v : Value) (w : World) : (Instr.typeAssert (.iface ( /- t -/ 85) v) ( /- t -/ 32) ( /- t -/ 40) true).run Try.prog w = .ok (.tuple #[.pointer none, .bool false]) w := by kernel_rfl

theorem linked_rec {w0 : World} {fr lab fr' : ByteArray} {ix k' ix' : Int} {kids' : F} {ps ks : List Nat} {v : Value} (h : LkN w0 4 fr ix (.cons lab k' fr' ix' kids' .nil) ps v ks) :
    ∃ L T x ks', v = .iface ( /- t -/ 56) (.pointer (some ⟨L, 0, none⟩)) ∧ Blk w0 L #[.iface T x] ∧ L ∉ ps ∧ LkN w0 k' fr' ix' kids' (ps ++ [L]) (.iface T x) ks' := by
  rcases h with ⟨h, -⟩ | ⟨h, -⟩ | ⟨-, L, s, u, ks', rfl, hb, hL, rfl, v', ys, k1, rs, e1, e2, hn, hr⟩ | ⟨h, -⟩
  · exact absurd h (by decide)
  · exact absurd h (by decide)
  · injection e1 with _ e1
    injection e1 with e1 _
    subst e1
    have hln : LkN w0 k' fr' ix' kids' (ps ++ [L]) u k1 := hn
    obtain ⟨T, x, rfl⟩ := hln.val
    exact ⟨L, T, x, k1, rfl, hb, hL, hln⟩
  · rcases h with h | h <;> exact absurd h (by decide)

theorem nodup_snoc {ps : List Nat} {L : Nat} (h : ps.Nodup) (hL : L ∉ ps) : (ps ++ [L]).Nodup :=
  List.nodup_append.2 ⟨h, by simp, fun x hx y hy => by rintro rfl; rw [List.mem_singleton.1 hy] at hx; exact hL hx⟩

theorem linked_act {w0 : World} {k ix : Int} {fr : ByteArray} {kids : F} {ps ks : List Nat} {v : Value} (hk : k = 2 ∨ k = 3) (h : LkN w0 k fr ix kids ps v ks) :
    ∃ A r cap cs xs ks', v = .iface ( /- t -/ 40) (.pointer (some ⟨A, 0, none⟩)) ∧ Blk w0 A #[.int .i64 k, .string fr, .slice (some ⟨r, 0, none⟩) kids.len cap] ∧ kids.len ≤ cap ∧ cap ≤ maxLen ∧ Blk w0 r cs ∧ cs.toList.take (kids.len * 2) = xs ∧ Lk w0 kids ps xs ks' := by
  rcases h with ⟨h, -⟩ | ⟨h, -⟩ | ⟨h, -⟩ | ⟨-, A, r, cap, cs, xs, ks', h1, h2, h3, h4, h5, h6, -, h8⟩
  · omega
  · omega
  · omega
  · exact ⟨A, r, cap, cs, xs, ks', h1, h2, h3, h4, h5, h6, h8⟩

/-- The next branch of a row. -/
theorem linked_next {w0 : World} {lab : ByteArray} {kd ix' : Int} {fr' : ByteArray} {kids' rest : F} {ps : List Nat} {xs ys : List Value} {rs : List Nat} {r n k : Nat} {cs : Array Value} (hl : Lk w0 (.cons lab kd fr' ix' kids' rest) ps ys rs) (hd : xs.drop (k * 2) = ys) (hr : Blk w0 r cs) (hx : cs.toList.take (n * 2) = xs) :
    ∃ T x ys' k1 r1, w0.cell? ⟨r, k * 2, none⟩ = some (.string lab) ∧ w0.cell? ⟨r, k * 2 + 1, none⟩ = some (.iface T x) ∧ LkN w0 kd fr' ix' kids' ps (.iface T x) k1 ∧ Lk w0 rest ps ys' r1 ∧ xs.drop ((k + 1) * 2) = ys' := by
  obtain ⟨v, ys', k1, r1, rfl, rfl, hn, hrest⟩ := hl
  have hln : LkN w0 kd fr' ix' kids' ps v k1 := hn
  obtain ⟨T, x, rfl⟩ := hln.val
  have g : ∀ i, xs[k * 2 + i]? = (Value.string lab :: Value.iface T x :: ys')[i]? := fun i => by rw [← hd, List.getElem?_drop]
  have cc : ∀ i v, xs[i]? = some v → w0.cell? ⟨r, i, none⟩ = some v := fun i v h => by
    rw [hr.cell i]
    rw [← hx, List.getElem?_take] at h
    split at h
    · simpa using h
    · cases h
  refine ⟨T, x, ys', k1, r1, cc _ _ (g 0), cc _ _ (g 1), hln, hrest, ?_⟩
  rw [show (k + 1) * 2 = k * 2 + 2 by omega, ← List.drop_drop, hd]
  rfl
end Go.Proofs.Ytpjbffggeegdaaa.Lo

/- The index of a variable in a scope of the program. -/
namespace Go.Proofs.Ytpjbffggeegdaaa.Lo
open Go.RowKit

theorem Try.info58 : (Try.prog.info? ( /- t -/ 58)).map (fun i => (i.zero, i.size, i.bytes)) = some (some (.agg #[.nilIface]), 1, 16) := by kernel_rfl

theorem nodup_get {ps : List Nat} (h : ps.Nodup) {i j x : Nat} (hi : ps[i]? = some x) (hj : ps[j]? = some x) : i = j := by
  obtain ⟨h1, e1⟩ := List.getElem?_eq_some_iff.1 hi
  obtain ⟨h2, e2⟩ := List.getElem?_eq_some_iff.1 hj
  rcases Nat.lt_trichotomy i j with hlt | heq | hlt
  · exact absurd (e1.trans e2.symm) (List.pairwise_iff_getElem.1 h i j h1 h2 hlt)
  · exact heq
  · exact absurd (e2.trans e1.symm) (List.pairwise_iff_getElem.1 h j i h2 h1 hlt)

set_option maxHeartbeats 800000 in
set_option maxRecDepth 100000 in
/-- index: the recursion is around. -/
theorem idx_calls (w : World) (dp un : Int) (lv : Value) (ps : List Nat) (l i j : Nat) (hp : Ps w lv ps) (hnd : ps.Nodup) (hl : ps[j]? = some l) (hj : ps.length = j + 1 + i) (hlen : ps.length ≤ 41) (hblk : ∀ x, x ∈ ps → ∃ cs, Blk w x cs) :
    Calls Try.prog 38 #[.agg #[.int .i64 dp, lv, .int .i64 un], .pointer (some ⟨l, 0, none⟩)] w fun e w' => e = .returned (.int .i64 i) ∧ Below w.heap.size w w' := by
  rcases hp with ⟨rfl, -⟩ | ⟨b, cap, hne, rfl, hcap, hmax, hcell⟩
  · exfalso
    have : (0 : Nat) = j + 1 + i := hj
    omega
  obtain ⟨i0, hi, hz0, hz1, hz2⟩ := info_parts Try.info58
  have HI := hide hi
  have HI1 : Hid (i0.size ≠ 0) := by unfold Hid; rw [hz1]; decide
  have HBK := hide hblk
  clear hi hz0 hz1 hz2 hblk
  obtain ⟨n, hn⟩ : ∃ n, n = ps.length := ⟨_, rfl⟩
  have hn41 : n ≤ 41 := by omega
  have hin : i < n := by omega
  rw [← hn]
  have HC := hide hcell
  have HND := hide hnd
  have HL := hide hl
  have HJ : Hid (n = j + 1 + i ∧ n = ps.length) := ⟨by omega, hn⟩
  have hb0 := alloc_below w (.cells #[.int .i64 dp, .slice (some ⟨b, 0, none⟩) n cap, .int .i64 un] ( /- t -/ 53))
  have hbx := Blk.now w #[.int .i64 dp, .slice (some ⟨b, 0, none⟩) n cap, .int .i64 un] ( /- t -/ 53)
  clear hcell hnd hl hj hcap hmax hne hlen hn
  go_enter Try.func38, Try.ntmps38
  go_wp2_with fail
  generalize (w.alloc (.cells #[.int .i64 dp, .slice (some ⟨b, 0, none⟩) n cap, .int .i64 un] ( /- t -/ 53))) = W at *
  have c1 : W.cell? ⟨w.heap.size, 1, none⟩ = some (.slice (some ⟨b, 0, none⟩) n cap) := hbx.cell 1
  have hW : w.heap.size < W.heap.size := hbx.lt
  have HB := hide hb0
  clear hb0 hbx
  go_loopw [9] (fun iv wr => ∃ k : Nat, iv = .int .i64 k ∧ k ≤ i ∧ wr = W) (fun iv _ => i + 1 - (intOf iv).toNat)
  case atStart => exact ⟨0, rfl, Nat.zero_le _, rfl⟩
  case round =>
    obtain ⟨k, rfl, hk, rfl⟩ := hrel
    obtain ⟨r, hr⟩ : ∃ r, r + 1 + k = n := ⟨n - 1 - k, by omega⟩
    have hidx : (n : Int) - 1 - k = (r : Nat) := by omega
    have hkn : k < n := by omega
    have hr0 : (0 : Int) ≤ (r : Nat) := by omega
    have hrn : r < n := by omega
    obtain ⟨x, hx⟩ : ∃ x, ps[r]? = some x := ⟨ps[r]'(by have := HJ.out.2; omega), List.getElem?_eq_getElem (by have := HJ.out.2; omega)⟩
    have z0 : wr.cell? ⟨b, r, none⟩ = some (.pointer (some ⟨x, 0, none⟩)) := (Still.of_below HB.out) _ _ (HC.out _ _ hx)
    have hbw : b < wr.heap.size := World.block_lt_of_cell? _ _ z0
    by_cases hq : k = i
    · have hrj : r = j := by have := HJ.out.1; omega
      have hxl : x = l := by
        have := HL.out
        rw [hrj, this] at hx
        exact (Option.some.inj hx).symm
      have HK := hide hq
      subst hxl
      have n1 := run_eql_ptr_same (P := Try.prog) wr ⟨x, 0, none⟩ Try.underlying56 HI.out
      clear hx hr hrj hq
      go_wp2_with fail
      go_ret
      exact ⟨by rw [HK.out]; rfl, HB.out⟩
    · have hxl : x ≠ l := by
        rintro rfl
        have := nodup_get HND.out hx HL.out
        have := HJ.out.1
        omega
      have hki : k + 1 ≤ i := by omega
      have HKI := hide hki
      obtain ⟨cx, tx, hbx⟩ := HBK.out x (List.mem_of_getElem? hx)
      obtain ⟨cl, tl, hbl⟩ := HBK.out l (List.mem_of_getElem? HL.out)
      have n1 := run_eql_ptr_other (P := Try.prog) wr (a := ⟨x, 0, none⟩) (b := ⟨l, 0, none⟩) Try.underlying56 HI.out HI1.out (fun e => hxl (by injection e)) ((HB.out.block x (Array.getElem?_eq_some_iff.1 hbx).1).trans hbx) ((HB.out.block l (Array.getElem?_eq_some_iff.1 hbl).1).trans hbl)
      clear hx hr hq hki hbx hbl
      go_wp2_with fail
      refine ⟨⟨k + 1, by go_num, HKI.out, trivial⟩, ?_⟩
      have h9 := HKI.out
      simp [intOf]
      omega
end Go.Proofs.Ytpjbffggeegdaaa.Lo

/- A recursion that is not in a scope of the program has no index there. -/
namespace Go.Proofs.Ytpjbffggeegdaaa.Lo
open Go.RowKit

set_option maxHeartbeats 800000 in
set_option maxRecDepth 100000 in
/-- index: the recursion is not around. -/
theorem idx_none (w : World) (dp un : Int) (lv : Value) (ps : List Nat) (l : Nat) (hp : Ps w lv ps) (hl : l ∉ ps) (hlen : ps.length ≤ 41) (hblk : ∀ x, x ∈ ps → ∃ cs, Blk w x cs) (hbl : ∃ cs, Blk w l cs) :
    Calls Try.prog 38 #[.agg #[.int .i64 dp, lv, .int .i64 un], .pointer (some ⟨l, 0, none⟩)] w fun e w' => e = .returned (.int .i64 (-1)) ∧ Below w.heap.size w w' := by
  rcases hp with ⟨rfl, rfl⟩ | ⟨b, cap, hne, rfl, hcap, hmax, hcell⟩
  · have hb0 := alloc_below w (.cells #[.int .i64 dp, .slice none 0 0, .int .i64 un] ( /- t -/ 53))
    have hbx := Blk.now w #[.int .i64 dp, .slice none 0 0, .int .i64 un] ( /- t -/ 53)
    clear hl hlen hblk hbl
    go_enter Try.func38, Try.ntmps38
    go_wp2_with fail
    generalize (w.alloc (.cells #[.int .i64 dp, .slice none 0 0, .int .i64 un] ( /- t -/ 53))) = W at *
    have HB := hide hb0
    clear hb0 hbx
    go_loopw [9] (fun iv wr => iv = .int .i64 0 ∧ wr = W) (fun iv _ => 1 - (intOf iv).toNat)
    case atStart => exact ⟨rfl, rfl⟩
    case round =>
      obtain ⟨rfl, rfl⟩ := hrel
      go_wp2_with fail
      go_ret
      exact ⟨rfl, HB.out⟩
  obtain ⟨i0, hi, hz0, hz1, hz2⟩ := info_parts Try.info58
  have HI := hide hi
  have HI1 : Hid (i0.size ≠ 0) := by unfold Hid; rw [hz1]; decide
  have HBK := hide hblk
  have HBL := hide hbl
  have HL := hide hl
  clear hi hz0 hz1 hz2 hblk hbl hl
  obtain ⟨n, hn⟩ : ∃ n, n = ps.length := ⟨_, rfl⟩
  have hn41 : n ≤ 41 := by omega
  rw [← hn]
  have HC := hide hcell
  have HN := hide hn
  have hb0 := alloc_below w (.cells #[.int .i64 dp, .slice (some ⟨b, 0, none⟩) n cap, .int .i64 un] ( /- t -/ 53))
  have hbx := Blk.now w #[.int .i64 dp, .slice (some ⟨b, 0, none⟩) n cap, .int .i64 un] ( /- t -/ 53)
  clear hcell hcap hmax hne hlen hn
  go_enter Try.func38, Try.ntmps38
  go_wp2_with fail
  generalize (w.alloc (.cells #[.int .i64 dp, .slice (some ⟨b, 0, none⟩) n cap, .int .i64 un] ( /- t -/ 53))) = W at *
  have c1 : W.cell? ⟨w.heap.size, 1, none⟩ = some (.slice (some ⟨b, 0, none⟩) n cap) := hbx.cell 1
  have hW : w.heap.size < W.heap.size := hbx.lt
  have HB := hide hb0
  clear hb0 hbx
  go_loopw [9] (fun iv wr => ∃ k : Nat, iv = .int .i64 k ∧ k ≤ n ∧ wr = W) (fun iv _ => n + 1 - (intOf iv).toNat)
  case atStart => exact ⟨0, rfl, Nat.zero_le _, rfl⟩
  case round =>
    obtain ⟨k, rfl, hk, rfl⟩ := hrel
    by_cases hkn : k < n
    · obtain ⟨r, hr⟩ : ∃ r, r + 1 + k = n := ⟨n - 1 - k, by omega⟩
      have hidx : (n : Int) - 1 - k = (r : Nat) := by omega
      have hr0 : (0 : Int) ≤ (r : Nat) := by omega
      have hrn : r < n := by omega
      obtain ⟨x, hx⟩ : ∃ x, ps[r]? = some x := ⟨ps[r]'(by have := HN.out; omega), List.getElem?_eq_getElem (by have := HN.out; omega)⟩
      have z0 : wr.cell? ⟨b, r, none⟩ = some (.pointer (some ⟨x, 0, none⟩)) := (Still.of_below HB.out) _ _ (HC.out _ _ hx)
      have hbw : b < wr.heap.size := World.block_lt_of_cell? _ _ z0
      have hxl : x ≠ l := by
        rintro rfl
        exact HL.out (List.mem_of_getElem? hx)
      obtain ⟨cx, tx, hbx⟩ := HBK.out x (List.mem_of_getElem? hx)
      obtain ⟨cl, tl, hbl⟩ := HBL.out
      have n1 := run_eql_ptr_other (P := Try.prog) wr (a := ⟨x, 0, none⟩) (b := ⟨l, 0, none⟩) Try.underlying56 HI.out HI1.out (fun e => hxl (by injection e)) ((HB.out.block x (Array.getElem?_eq_some_iff.1 hbx).1).trans hbx) ((HB.out.block l (Array.getElem?_eq_some_iff.1 hbl).1).trans hbl)
      have HKN := hide hkn
      clear hx hr hbx hbl hk
      go_wp2_with fail
      refine ⟨⟨k + 1, by go_num, HKN.out, trivial⟩, ?_⟩
      have h9 := HKN.out
      simp [intOf]
      omega
    · have hge : n ≤ k := by omega
      have hknn : k = n := by omega
      subst hknn
      clear hk hkn
      go_wp2_with fail
      go_ret
      exact ⟨rfl, HB.out⟩
end Go.Proofs.Ytpjbffggeegdaaa.Lo
