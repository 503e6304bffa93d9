/- Pla, Pm, Pn, Poa, LMp, Rl, LRt, Law, Or, Eo -/
import Derived.Test.YtfppglfajbmapaaDoorU00
import Derived.Test.YtfppglfajbmapaaDoorU04
import Derived.Test.YtfppglfajbmapaaDoorU02
import Derived.Deep.AppendLies
import Derived.Deep.Cut
import Derived.Deep.RegionWith
import Derived.Deep.RegionHeld3
import Derived.Deep.RegionLawGrows
import Derived.Test.YtfppglfajbmapaaDoorRows
import Derived.Test.YtfppglfajbmapaaDoorProg
import Derived.Maps.Own
import Derived.Maps.OwnOps
import Derived.LaidEqlPtr
import Derived.Laws.StructEq
import Derived.ProofKit
import Derived.ChangeArms
/- What a text says: the tree whose text it is; what ParseLocal owes. -/
namespace Go.Proofs.YtfppglfajbmapaaDoor.Lo.Ne
open Go.RowKit

def FitN (N : Nd) : Prop := N.fr.size ≤ 1 ∧ (Lit.int .i64 N.k).wf = true ∧ (Lit.int .i64 N.ix).wf = true
/-- What a text says. -/
def resL (s : List UInt8) : Option Nd :=
  match rl (s.length + 1) s with
  | some (N, []) => if okN N.k N.fr N.ix N.kids = true then some N else none
  | _ => none
theorem resL_some {s : List UInt8} {N : Nd} (h : rl (s.length + 1) s = some (N, [])) (hk : okN N.k N.fr N.ix N.kids = true) : resL s = some N := by
  unfold resL
  rw [h]
  simp only
  rw [if_pos hk]
theorem resL_bad {s : List UInt8} {N : Nd} (h : rl (s.length + 1) s = some (N, [])) (hk : okN N.k N.fr N.ix N.kids = false) : resL s = none := by
  unfold resL
  rw [h]
  simp only
  rw [if_neg (by rw [hk]; decide)]
theorem resL_left {s : List UInt8} {N : Nd} {b : UInt8} {t : List UInt8} (h : rl (s.length + 1) s = some (N, b :: t)) : resL s = none := by
  unfold resL
  rw [h]
theorem resL_fail {s : List UInt8} (h : rl (s.length + 1) s = none) : resL s = none := by
  unfold resL
  rw [h]
/-- What a text says is the tree whose text it is. -/
theorem resL_iff (s : List UInt8) (N : Nd) : resL s = some N ↔ (okN N.k N.fr N.ix N.kids = true ∧ digN N = true ∧ s = bl (txN N.k N.fr N.ix N.kids)) := by
  constructor
  · intro h
    unfold resL at h
    split at h
    · rename_i M hM
      split at h
      · rename_i hk
        injection h with h
        subst h
        have hv := hk
        unfold okN at hv
        simp only [Bool.and_eq_true] at hv
        have := (snd_all _).1 _ _ _ hM 0 0 40 (by omega) hv.1
        rw [List.append_nil] at this
        exact ⟨hk, this.2, this.1⟩
      · cases h
    · cases h
  · rintro ⟨hk, hd, rfl⟩
    have hv := hk
    unfold okN at hv
    simp only [Bool.and_eq_true] at hv
    refine resL_some ?_ hk
    have := back_node (back_all N.kids) (k := N.k) (fr := N.fr) (ix := N.ix) (b := 0) (u := 0) (d := 40) (by omega) hv.1 hd ((bl (txN N.k N.fr N.ix N.kids)).length + 1) [] (by simp)
    rw [List.append_nil] at this
    exact this
theorem resL_size {s : List UInt8} {N : Nd} (h : resL s = some N) : s.length ≤ 2000 := by
  obtain ⟨hk, hd, rfl⟩ := (resL_iff s N).1 h
  unfold okN at hk
  simp only [Bool.and_eq_true, decide_eq_true_eq] at hk
  have := txN_size (by omega) (by omega) (by omega) hk.1
  rw [bl_length]
  omega

def outL (s : List UInt8) : Nd := (resL s).getD ⟨0, ⟨#[]⟩, 0, .nil⟩
/-- What ParseLocal owes: a node in new memory and a flag. -/
def PlPost (s : List UInt8) (w : World) (e : Ending) (w' : World) : Prop :=
  ∃ u bs, e = .returned (.tuple #[.agg #[.int .i64 (outL s).k, .string (outL s).fr, .int .i64 (outL s).ix, u], .bool (resL s).isSome]) ∧ Ow w' u (outL s).kids bs ∧ (∀ b, b ∈ bs → w.heap.size ≤ b) ∧ bs.Nodup ∧ Below w.heap.size w w'
theorem pl_no {s : List UInt8} (h : resL s = none) {w w' : World} (hb : Below w.heap.size w w') : PlPost s w (.returned (.tuple #[.agg #[.int .i64 0, .string ⟨#[]⟩, .int .i64 0, .slice none 0 0], .bool false])) w' := by
  unfold PlPost outL
  rw [h]
  exact ⟨_, [], rfl, ⟨none, 0, rfl, Nat.le_refl _, Nat.zero_le _, Or.inl ⟨rfl, rfl⟩⟩, fun _ h => absurd h (List.not_mem_nil), List.nodup_nil, hb⟩
theorem pl_yes {s : List UInt8} {N : Nd} (h : resL s = some N) {w w' : World} {u : Value} {bs : List Nat} (how : Ow w' u N.kids bs) (hge : ∀ b, b ∈ bs → w.heap.size ≤ b) (hnd : bs.Nodup) (hb : Below w.heap.size w w') :
    PlPost s w (.returned (.tuple #[.agg #[.int .i64 N.k, .string N.fr, .int .i64 N.ix, u], .bool true])) w' := by
  unfold PlPost outL
  rw [h]
  exact ⟨u, bs, rfl, how, hge, hnd, hb⟩
theorem below_set4 {B b : Nat} {w w' : World} (h : Below B w w') (hb : B ≤ b) (u0 u1 u2 u3 : Value) : Below B w ((((w'.setCell ⟨b, 0, none⟩ u0).setCell ⟨b, 1, none⟩ u1).setCell ⟨b, 2, none⟩ u2).setCell ⟨b, 3, none⟩ u3) :=
  (((h.setCell (p := ⟨b, 0, none⟩) hb u0).setCell (p := ⟨b, 1, none⟩) hb u1).setCell (p := ⟨b, 2, none⟩) hb u2).setCell (p := ⟨b, 3, none⟩) hb u3

theorem ow_set4 {w' : World} {b : Nat} {u : Value} {f : F} {bs : List Nat} (h : Ow w' u f bs) (hb : ∀ x, x ∈ bs → x ≠ b) (u0 u1 u2 u3 : Value) : Ow ((((w'.setCell ⟨b, 0, none⟩ u0).setCell ⟨b, 1, none⟩ u1).setCell ⟨b, 2, none⟩ u2).setCell ⟨b, 3, none⟩ u3) u f bs :=
  h.same ((((Same.refl _ _).setCell hb _).setCell hb _).setCell hb _ |>.setCell hb _)
/-- One branch in a row of its own. -/
theorem ow_one {w : World} {b : Nat} {N : Nd} {u : Value} {bs : List Nat} {t : TypeId} (hw : w.heap[b]? = some (.cells #[.string ⟨#[]⟩, .int .i64 N.k, .string N.fr, .int .i64 N.ix, u] t (0, 0))) (hu : Ow w u N.kids bs) (hf : FitN N) :
    Ow w (.slice (some ⟨b, 0, none⟩) 1 1) (.cons ⟨#[]⟩ N.k N.fr N.ix N.kids .nil) (b :: bs) := by
  obtain ⟨f1, f2, f3⟩ := hf
  obtain ⟨a, cap, rfl, e1, e2, e3⟩ := hu
  have q : ∀ i, w.cell? ⟨b, i, none⟩ = (#[.string ⟨#[]⟩, .int .i64 N.k, .string N.fr, .int .i64 N.ix, .slice a N.kids.len cap] : Array Value)[i]? := fun i => by simp [World.cell?, hw]
  exact ⟨_, 1, rfl, Nat.le_refl _, by decide, Or.inr ⟨b, 5, bs, rfl, rfl, ⟨_, t, hw, rfl⟩, by simp, by decide, Nat.le_trans f1 (by decide), f2, f3, q 0, q 1, q 2, q 3, bs, [], by simp, ⟨a, cap, q 4, e1, e2, e3⟩, rfl⟩⟩
theorem inf_lb : (Tryd.prog.info? ( /- t -/ 38)).map (fun i => (i.zero, i.size, i.bytes)) = some (some (.agg #[.string ⟨#[]⟩, .int .i64 0, .string ⟨#[]⟩, .int .i64 0, .slice none 0 0]), 5, 72) := by kernel_rfl
theorem box4_set3 {w : World} {b : Nat} {v0 v1 v2 v3 : Value} (h : Box4 w b v0 v1 v2 v3) (u : Value) : Box4 (w.setCell ⟨b, 3, none⟩ u) b v0 v1 v2 u := by
  obtain ⟨t, h⟩ := h
  exact ⟨t, heap_setCell_same h _⟩
end Go.Proofs.YtfppglfajbmapaaDoor.Lo.Ne

/- l2Parse of the model: what it owes; an end, a variable. -/
namespace Go.Proofs.YtfppglfajbmapaaDoor.Lo.Ne
open Go.RowKit

def SpPost (T : List UInt8) (r : Option (Nd × List UInt8)) (w : World) (e : Ending) (w' : World) : Prop :=
  Below w.heap.size w w' ∧ (∀ N t, r = some (N, t) → ∃ (q : Nat) (u : Value) (bs : List Nat), q ≤ T.length ∧ t = T.drop q ∧ e = .returned (.tuple #[.agg #[.int .i64 N.k, .string N.fr, .int .i64 N.ix, u], .int .i64 (q : Nat)]) ∧ Ow w' u N.kids bs ∧ (∀ b, b ∈ bs → w.heap.size ≤ b) ∧ bs.Nodup) ∧
  (r = none → ∃ k fr ix a m cp, e = .returned (.tuple #[.agg #[.int .i64 k, .string fr, .int .i64 ix, .slice a m cp], .int .i64 (-1)]))
theorem sp_yes {T t : List UInt8} {r : Option (Nd × List UInt8)} {N : Nd} (h : r = some (N, t)) {w w' : World} {u : Value} {bs : List Nat} {q : Nat} (hq : q ≤ T.length) (ht : t = T.drop q) (hb : Below w.heap.size w w') (how : Ow w' u N.kids bs) (hge : ∀ b, b ∈ bs → w.heap.size ≤ b) (hnd : bs.Nodup) :
    SpPost T r w (.returned (.tuple #[.agg #[.int .i64 N.k, .string N.fr, .int .i64 N.ix, u], .int .i64 (q : Nat)])) w' := by
  refine ⟨hb, fun N' t' h' => ?_, fun h' => by rw [h] at h'; cases h'⟩
  rw [h] at h'
  injection h' with h'
  injection h' with h1 h2
  subst h1 h2
  exact ⟨q, u, bs, hq, ht, rfl, how, hge, hnd⟩
theorem sp_not {T : List UInt8} {r : Option (Nd × List UInt8)} (h : r = none) {w w' : World} {k ix : Int} {fr : ByteArray} {a : Option Addr} {m cp : Nat} (hb : Below w.heap.size w w') :
    SpPost T r w (.returned (.tuple #[.agg #[.int .i64 k, .string fr, .int .i64 ix, .slice a m cp], .int .i64 (-1)])) w' := by
  refine ⟨hb, fun N t h' => ?_, fun _ => ⟨k, fr, ix, a, m, cp, rfl⟩⟩
  rw [h] at h'
  cases h'
def SpAt (d : Nat) : Prop := ∀ (w : World) (T : List UInt8) (p : Nat), T.length ≤ 1048576 → p ≤ T.length →
  Calls Tryd.prog 178 #[.string (bs T), .int .i64 (p : Nat), .int .i64 (d : Nat)] w (SpPost T (sp d (T.drop p)) w)

theorem head_at {T : List UInt8} {p : Nat} (h : p < T.length) : ∃ hin : p < (bs T).size, (bs T)[p]'hin = hdC (T.drop p) ∧ T.drop p = hdC (T.drop p) :: T.drop (p + 1) := by
  refine ⟨by rw [bs_size]; exact h, ?_, ?_⟩
  · rw [List.drop_eq_getElem_cons h]
    rfl
  · conv => lhs; rw [List.drop_eq_getElem_cons h]
    rw [List.drop_eq_getElem_cons h]
    rfl

set_option maxHeartbeats 1600000 in
set_option maxRecDepth 100000 in
theorem sp_out (d : Nat) (hd : d ≤ 40) (w : World) (T : List UInt8) (p : Nat) (h : d = 0 ∨ p = T.length) :
    Calls Tryd.prog 178 #[.string (bs T), .int .i64 (p : Nat), .int .i64 (d : Nat)] w (SpPost T (sp d (T.drop p)) w) := by
  have hsz : (bs T).size = T.length := bs_size T
  have HN : Hid (sp d (T.drop p) = none) := by
    unfold Hid
    rcases h with rfl | rfl
    · rfl
    · rw [List.drop_length]
      cases d <;> rfl
  generalize sp d (T.drop p) = r at *
  by_cases hd0 : d = 0
  · subst hd0
    clear h
    go_enter Tryd.func178, Tryd.ntmps178
    go_wp2_with fail
    refine bodyPost_ret (v := .tuple #[.agg #[.int .i64 0, .string ⟨#[]⟩, .int .i64 0, .slice none 0 0], .int .i64 (-1)]) (by simp [results, Tryd.results178, go_sem, *]) rfl ?_
    exact sp_not HN.out (alloc_below w _)
  · obtain rfl : p = T.length := by omega
    have h1 : ¬ (d : Int) < 1 := by omega
    clear h hd0
    go_enter Tryd.func178, Tryd.ntmps178
    go_wp2_with fail
    refine bodyPost_ret (v := .tuple #[.agg #[.int .i64 0, .string ⟨#[]⟩, .int .i64 0, .slice none 0 0], .int .i64 (-1)]) (by simp [results, Tryd.results178, go_sem, *]) rfl ?_
    exact sp_not HN.out (alloc_below w _)

set_option maxHeartbeats 1600000 in
set_option maxRecDepth 100000 in
theorem sp_dot (d : Nat) (hd : d ≤ 40) (w : World) (T : List UInt8) (p : Nat) (hT : T.length ≤ 1048576) (hp : p < T.length) (hc : hdC (T.drop p) = 46) :
    Calls Tryd.prog 178 #[.string (bs T), .int .i64 (p : Nat), .int .i64 ((d + 1 : Nat) : Int)] w (SpPost T (sp (d + 1) (T.drop p)) w) := by
  have hsz : (bs T).size = T.length := bs_size T
  obtain ⟨hin, hget, hdr⟩ := head_at hp
  have HS : Hid (sp (d + 1) (T.drop p) = some (ndEnd, T.drop (p + 1))) := by
    unfold Hid
    rw [hdr, hc]
    rfl
  have hlt : (p : Int) < (T.length : Int) := by omega
  have hcb : (((bs T)[p]'hin).toNat : Int) = 46 := by rw [hget, hc]; rfl
  have h1 : ¬ ((d + 1 : Nat) : Int) < 1 := by omega
  clear hget hdr hc
  generalize sp (d + 1) (T.drop p) = r at *
  go_enter Tryd.func178, Tryd.ntmps178
  go_wp2_with fail
  refine bodyPost_ret (v := .tuple #[.agg #[.int .i64 1, .string ⟨#[]⟩, .int .i64 0, .slice none 0 0], .int .i64 ((p + 1 : Nat) : Int)]) (by simp [results, Tryd.results178, go_sem, *]) rfl ?_
  exact sp_yes (N := ndEnd) (bs := []) HS.out (by omega) rfl (alloc_below w _) ⟨none, 0, rfl, Nat.le_refl _, Nat.zero_le _, Or.inl ⟨rfl, rfl⟩⟩ (fun _ h => absurd h (List.not_mem_nil)) List.nodup_nil

set_option maxHeartbeats 1600000 in
set_option maxRecDepth 100000 in
theorem sp_hash (d : Nat) (hd : d ≤ 40) (w : World) (T : List UInt8) (p : Nat) (hT : T.length ≤ 1048576) (hp : p + 1 < T.length) (hc : hdC (T.drop p) = 35) :
    Calls Tryd.prog 178 #[.string (bs T), .int .i64 (p : Nat), .int .i64 ((d + 1 : Nat) : Int)] w (SpPost T (sp (d + 1) (T.drop p)) w) := by
  have hsz : (bs T).size = T.length := bs_size T
  obtain ⟨hin, hget, hdr⟩ := head_at (show p < T.length by omega)
  obtain ⟨hin1, hget1, hdr1⟩ := head_at hp
  generalize hcc : hdC (T.drop (p + 1)) = c at *
  have HS : Hid (sp (d + 1) (T.drop p) = some (ndVar c, T.drop (p + 2))) := by
    unfold Hid
    rw [hdr, hc, hdr1]
    rfl
  have hlt : (p : Int) < (T.length : Int) := by omega
  have hlt1 : (p : Int) + 1 < (T.length : Int) := by omega
  have hcb : (((bs T)[p]'hin).toNat : Int) = 35 := by rw [hget, hc]; rfl
  have h1 : ¬ ((d + 1 : Nat) : Int) < 1 := by omega
  have hc256 := c.toNat_lt
  clear hget hdr hc hdr1 hcc
  generalize sp (d + 1) (T.drop p) = r at *
  go_enter Tryd.func178, Tryd.ntmps178
  go_wp2_with fail
  refine bodyPost_ret (v := .tuple #[.agg #[.int .i64 5, .string ⟨#[]⟩, .int .i64 ((c.toNat : Int) - 48), .slice none 0 0], .int .i64 ((p + 2 : Nat) : Int)]) (by simp [results, Tryd.results178, go_sem, *]) rfl ?_
  exact sp_yes (N := ndVar c) (bs := []) HS.out (by omega) rfl (alloc_below w _) ⟨none, 0, rfl, Nat.le_refl _, Nat.zero_le _, Or.inl ⟨rfl, rfl⟩⟩ (fun _ h => absurd h (List.not_mem_nil)) List.nodup_nil

set_option maxHeartbeats 1600000 in
set_option maxRecDepth 100000 in
/-- No node begins so. -/
theorem sp_other (d : Nat) (hd : d ≤ 40) (w : World) (T : List UInt8) (p : Nat) (hT : T.length ≤ 1048576) (hp : p < T.length) (h46 : hdC (T.drop p) ≠ 46) (h35 : hdC (T.drop p) = 35 → T.length ≤ p + 1) (h64 : hdC (T.drop p) ≠ 64) (h123 : nxC (T.drop (p + 2)) 123 = false) :
    Calls Tryd.prog 178 #[.string (bs T), .int .i64 (p : Nat), .int .i64 ((d + 1 : Nat) : Int)] w (SpPost T (sp (d + 1) (T.drop p)) w) := by
  have hsz : (bs T).size = T.length := bs_size T
  obtain ⟨hin, hget, hdr⟩ := head_at hp
  have hlt : (p : Int) < (T.length : Int) := by omega
  have h1 : ¬ ((d + 1 : Nat) : Int) < 1 := by omega
  have HN : Hid (sp (d + 1) (T.drop p) = none) := by
    unfold Hid
    generalize hc : hdC (T.drop p) = c at *
    rw [sp, hdr, if_neg (by simpa [nxC] using h46), if_neg (fun h => by simp [nxC] at h; have := h35 h.1; omega), if_neg (by simpa [nxC] using h64)]
    rw [show (c :: T.drop (p + 1)).tail.tail = T.drop (p + 2) by simp [List.tail_drop], if_neg (by rw [h123]; decide)]
  have hcb : (((bs T)[p]'hin).toNat : Int) ≠ 46 := by rw [hget]; exact fun h => h46 (UInt8.toNat_inj.1 (by show _ = 46; omega))
  have hcd : (((bs T)[p]'hin).toNat : Int) ≠ 64 := by rw [hget]; exact fun h => h64 (UInt8.toNat_inj.1 (by show _ = 64; omega))
  by_cases h35' : hdC (T.drop p) = 35
  · have hl := h35 h35'
    have hce : (((bs T)[p]'hin).toNat : Int) = 35 := by rw [hget, h35']; rfl
    have hl1 : ¬ (p : Int) + 1 < (T.length : Int) := by omega
    have hl2 : ¬ (p : Int) + 2 < (T.length : Int) := by omega
    clear hget hdr h46 h35 h64 h123 h35' hcb hcd
    generalize sp (d + 1) (T.drop p) = r at *
    go_enter Tryd.func178, Tryd.ntmps178
    go_wp2_with fail
    refine bodyPost_ret (v := .tuple #[.agg #[.int .i64 0, .string ⟨#[]⟩, .int .i64 0, .slice none 0 0], .int .i64 (-1)]) (by simp [results, Tryd.results178, go_sem, *]) rfl ?_
    exact sp_not HN.out (alloc_below w _)
  have hce : (((bs T)[p]'hin).toNat : Int) ≠ 35 := by rw [hget]; exact fun h => h35' (UInt8.toNat_inj.1 (by show _ = 35; omega))
  by_cases hl : T.length ≤ p + 2
  · have hl2 : ¬ (p : Int) + 2 < (T.length : Int) := by omega
    clear hget hdr h46 h35 h64 h123 h35'
    generalize sp (d + 1) (T.drop p) = r at *
    go_enter Tryd.func178, Tryd.ntmps178
    go_wp2_with fail
    refine bodyPost_ret (v := .tuple #[.agg #[.int .i64 0, .string ⟨#[]⟩, .int .i64 0, .slice none 0 0], .int .i64 (-1)]) (by simp [results, Tryd.results178, go_sem, *]) rfl ?_
    exact sp_not HN.out (alloc_below w _)
  · obtain ⟨hin2, hget2, hdr2⟩ := head_at (show p + 2 < T.length by omega)
    have hl2 : (p : Int) + 2 < (T.length : Int) := by omega
    have hcf : (((bs T)[p + 2]'hin2).toNat : Int) ≠ 123 := by
      rw [hget2]
      intro h
      have : hdC (T.drop (p + 2)) = 123 := UInt8.toNat_inj.1 (by show _ = 123; omega)
      rw [hdr2, this] at h123
      cases h123
    clear hget hdr h46 h35 h64 h123 h35' hget2 hdr2
    generalize sp (d + 1) (T.drop p) = r at *
    go_enter Tryd.func178, Tryd.ntmps178
    go_wp2_with fail
    refine bodyPost_ret (v := .tuple #[.agg #[.int .i64 0, .string ⟨#[]⟩, .int .i64 0, .slice none 0 0], .int .i64 (-1)]) (by simp [results, Tryd.results178, go_sem, *]) rfl ?_
    exact sp_not HN.out (alloc_below w _)
end Go.Proofs.YtfppglfajbmapaaDoor.Lo.Ne

/- l2Parse of the model: a recursion. -/
namespace Go.Proofs.YtfppglfajbmapaaDoor.Lo.Ne
open Go.RowKit

theorem sp_fit (d : Nat) (s : List UInt8) (N : Nd) (t : List UInt8) (h : sp d s = some (N, t)) : FitN N := by
  cases d with
  | zero => cases h
  | succ d =>
    rw [sp] at h
    split at h
    · injection h with h
      injection h with h1 h2
      subst h1
      exact ⟨Nat.zero_le 1, rfl, rfl⟩
    split at h
    · injection h with h
      injection h with h1 h2
      subst h1
      have := (hdC s.tail).toNat_lt
      exact ⟨Nat.zero_le 1, rfl, WalkArith.wf_i64 (show -9223372036854775808 ≤ ((hdC s.tail).toNat : Int) - 48 ∧ ((hdC s.tail).toNat : Int) - 48 ≤ 9223372036854775807 by omega)⟩
    split at h
    · split at h
      · injection h with h
        injection h with h1 h2
        subst h1
        exact ⟨Nat.zero_le 1, rfl, rfl⟩
      · cases h
    split at h
    · split at h
      · injection h with h
        injection h with h1 h2
        subst h1
        refine ⟨Nat.le_refl 1, ?_, rfl⟩
        simp only
        split <;> rfl
      · cases h
    · cases h

set_option maxHeartbeats 1600000 in
set_option maxRecDepth 100000 in
theorem sp_at (d : Nat) (hd : d ≤ 40) (ih : SpAt d) (w : World) (T : List UInt8) (p : Nat) (hT : T.length ≤ 1048576) (hp : p < T.length) (hc : hdC (T.drop p) = 64) :
    Calls Tryd.prog 178 #[.string (bs T), .int .i64 (p : Nat), .int .i64 ((d + 1 : Nat) : Int)] w (SpPost T (sp (d + 1) (T.drop p)) w) := by
  have hsz : (bs T).size = T.length := bs_size T
  obtain ⟨hin, hget, hdr⟩ := head_at hp
  have hlt : (p : Int) < (T.length : Int) := by omega
  have hcb : (((bs T)[p]'hin).toNat : Int) = 64 := by rw [hget, hc]; rfl
  have h1 : ¬ ((d + 1 : Nat) : Int) < 1 := by omega
  have HR : Hid (sp (d + 1) (T.drop p) = (match sp d (T.drop (p + 1)) with | some (N, t) => some (ndRec N, t) | none => none)) := by
    unfold Hid
    rw [hdr, hc]
    rfl
  have HIH := hide (fun w => ih w T (p + 1) hT (by omega))
  have HFI := hide (sp_fit d (T.drop (p + 1)))
  clear hget hdr hc ih
  generalize sp (d + 1) (T.drop p) = r at *
  generalize sp d (T.drop (p + 1)) = r1 at *
  go_enter Tryd.func178, Tryd.ntmps178
  go_wp2_with fail
  have hx := Box4.now w (.int .i64 0) (.string ⟨#[]⟩) (.int .i64 0) (.slice none 0 0) ( /- t -/ 35)
  have hb1 := alloc_below w (.cells #[.int .i64 0, .string ⟨#[]⟩, .int .i64 0, .slice none 0 0] ( /- t -/ 35))
  have hw1 : w.heap.size < (w.alloc (.cells #[.int .i64 0, .string ⟨#[]⟩, .int .i64 0, .slice none 0 0] ( /- t -/ 35))).heap.size := by simp
  generalize w.alloc (.cells #[.int .i64 0, .string ⟨#[]⟩, .int .i64 0, .slice none 0 0] ( /- t -/ 35)) = W at *
  rw [show (p : Int) + 1 = ((p + 1 : Nat) : Int) by omega]
  first
    | rw [show ((d + 1 : Nat) : Int) - 1 = (d : Int) by omega]
    | skip
  refine (HIH.out W).mono ?_
  intro e w4 hp4
  have HX4 := hide (hx.below hp4.1)
  obtain ⟨y0, y1, y2, y3⟩ := HX4.out.cells
  have hf := box4_frozen HX4.out
  have hl := HX4.out.lt
  have HB4 := hide (hb1.trans (hp4.1.mono hb1.size))
  have hs4 := hp4.1.size
  clear hx hb1
  cases r1 with
  | none =>
    obtain ⟨k, fr, ix, a, m, cp, rfl⟩ := hp4.2.2 rfl
    have HN := hide (show r = none from HR.out)
    clear hp4 HR
    go_wp2_with fail
    refine bodyPost_ret (v := .tuple #[.agg #[.int .i64 4, .string ⟨#[]⟩, .int .i64 0, .slice (some ⟨w4.heap.size + 1, 0, none⟩) 1 1], .int .i64 (-1)]) (by simp [results, Tryd.results178, go_sem, *]) rfl ?_
    exact sp_not HN.out (((below_set4 HB4.out (Nat.le_refl _) _ _ _ _).alloc (by simp; omega) _).alloc (by simp; omega) _)
  | some q =>
    obtain ⟨N, t⟩ := q
    obtain ⟨q, u, bs2, hq, ht, rfl, how, hge, hnd⟩ := hp4.2.1 N t rfl
    have HN := hide (show r = some (ndRec N, t) from HR.out)
    have HOW := hide how
    have HGE := hide hge
    obtain ⟨ua, uc, rfl⟩ := how.val
    clear hp4 HR how hge
    go_wp2_with fail
    refine bodyPost_ret (v := .tuple #[.agg #[.int .i64 4, .string ⟨#[]⟩, .int .i64 0, .slice (some ⟨w4.heap.size + 1, 0, none⟩) 1 1], .int .i64 (q : Nat)]) (by simp [results, Tryd.results178, go_sem, *]) rfl ?_
    have HF := HFI.out N t rfl
    have hlt := HOW.out.lt
    have hos := ow_set4 (b := w.heap.size) HOW.out (fun x hx => by have := HGE.out x hx; omega) (.int .i64 4) (.string ⟨#[]⟩) (.int .i64 0) (.slice (some ⟨w4.heap.size + 1, 0, none⟩) 1 1)
    have HOS := hide (below_set4 HB4.out (Nat.le_refl _) (.int .i64 4) (.string ⟨#[]⟩) (.int .i64 0) (.slice (some ⟨w4.heap.size + 1, 0, none⟩) 1 1))
    have hss : ((((w4.setCell ⟨w.heap.size, 0, none⟩ (.int .i64 4)).setCell ⟨w.heap.size, 1, none⟩ (.string ⟨#[]⟩)).setCell ⟨w.heap.size, 2, none⟩ (.int .i64 0)).setCell ⟨w.heap.size, 3, none⟩ (.slice (some ⟨w4.heap.size + 1, 0, none⟩) 1 1)).heap.size = w4.heap.size := by simp
    generalize ((((w4.setCell ⟨w.heap.size, 0, none⟩ (.int .i64 4)).setCell ⟨w.heap.size, 1, none⟩ (.string ⟨#[]⟩)).setCell ⟨w.heap.size, 2, none⟩ (.int .i64 0)).setCell ⟨w.heap.size, 3, none⟩ (.slice (some ⟨w4.heap.size + 1, 0, none⟩) 1 1)) = S at *
    have hb : Below S.heap.size S ((S.alloc (.cells #[.int .i64 N.k, .string N.fr, .int .i64 N.ix, .slice ua N.kids.len uc] ( /- t -/ 35))).alloc (.cells #[.string ⟨#[]⟩, .int .i64 N.k, .string N.fr, .int .i64 N.ix, .slice ua N.kids.len uc] ( /- t -/ 38))) := (alloc_below S _).alloc (by simp) _
    have hnew := heap_alloc_new (S.alloc (.cells #[.int .i64 N.k, .string N.fr, .int .i64 N.ix, .slice ua N.kids.len uc] ( /- t -/ 35))) (.cells #[.string ⟨#[]⟩, .int .i64 N.k, .string N.fr, .int .i64 N.ix, .slice ua N.kids.len uc] ( /- t -/ 38))
    rw [show (S.alloc (.cells #[.int .i64 N.k, .string N.fr, .int .i64 N.ix, .slice ua N.kids.len uc] ( /- t -/ 35))).heap.size = w4.heap.size + 1 from by simp [hss]] at hnew
    have how1 := ow_one hnew (hos.same (Same.of_below hb hos.lt)) HF
    refine sp_yes (N := ndRec N) HN.out hq ht (HOS.out.trans (hb.mono (by omega))) how1 (fun x hx => ?_) ?_
    · rcases List.mem_cons.1 hx with rfl | hx
      · omega
      · have := HGE.out x hx; omega
    · exact List.nodup_cons.2 ⟨fun hm => by have := hlt _ hm; omega, hnd⟩
end Go.Proofs.YtfppglfajbmapaaDoor.Lo.Ne

/- l2ParseAction of the model. -/
namespace Go.Proofs.YtfppglfajbmapaaDoor.Lo.Ne
open Go.RowKit

def SpRel (T : List UInt8) (g : List UInt8 → Option (Nd × List UInt8)) (R : Option (F × List UInt8)) (kk : Int) (pr : ByteArray) (A : Nat) (w : World) (iv : Value) (wr : World) : Prop :=
  ∃ (j q : Nat) (acc : F) (v : Value) (bs : List Nat), iv = .int .i64 (q : Nat) ∧ q ≤ T.length ∧ Box4 wr A (.int .i64 kk) (.string pr) (.int .i64 0) v ∧ Gr wr (A + 1) v acc bs ∧ acc.len + j = 5 ∧ spB g j (T.drop q) acc = R ∧ Below w.heap.size w wr ∧ Box4 wr w.heap.size (.int .i64 0) (.string ⟨#[]⟩) (.int .i64 0) (.slice none 0 0)
def bxLen (w : World) (A : Nat) : Nat :=
  match w.cell? ⟨A, 3, none⟩ with
  | some (.slice _ n _) => n
  | _ => 0
theorem bxLen_eq {w : World} {A : Nat} {v0 v1 v2 : Value} {a : Option Addr} {n c : Nat} (h : Box4 w A v0 v1 v2 (.slice a n c)) : bxLen w A = n := by
  unfold bxLen
  rw [h.cells.2.2.2]
theorem exB_yes {T : List UInt8} {q : Nat} (hq : q < T.length) (hc : hdC (T.drop q) = 125) (acc : F) : exB (T.drop q) acc = some (acc, T.drop (q + 1)) := by
  obtain ⟨-, -, hdr⟩ := head_at hq
  rw [hdr, hc]
  rfl
theorem exB_end {T : List UInt8} {q : Nat} (hq : T.length ≤ q) (acc : F) : exB (T.drop q) acc = none := by
  rw [List.drop_eq_nil_of_le hq]
  rfl
theorem exB_no {T : List UInt8} {q : Nat} (hq : q < T.length) (hc : hdC (T.drop q) ≠ 125) (acc : F) : exB (T.drop q) acc = none := by
  obtain ⟨-, -, hdr⟩ := head_at hq
  generalize hdC (T.drop q) = c at *
  rw [hdr]
  unfold exB
  rw [if_neg (by simpa [nxC] using hc)]
theorem goes_iff {T : List UInt8} {q : Nat} : goesB (T.drop q) = true ↔ (q + 1 < T.length ∧ (hdC (T.drop q) = 123 ∨ hdC (T.drop q) = 124)) := by
  by_cases hq : q < T.length
  · obtain ⟨-, -, hdr⟩ := head_at hq
    have hl : (T.drop (q + 1)).length = T.length - (q + 1) := List.length_drop
    generalize hdC (T.drop q) = c at *
    rw [hdr]
    have e : (!(T.drop (q + 1)).isEmpty) = true ↔ q + 1 < T.length := by
      cases h : T.drop (q + 1) with
      | nil => rw [h] at hl; simp at hl ⊢; omega
      | cons a b => rw [h] at hl; simp at hl ⊢; omega
    unfold goesB
    rw [Bool.and_eq_true]
    simp only [List.tail_cons, nxC, Bool.or_eq_true, beq_iff_eq]
    rw [e]
    exact And.comm
  · rw [List.drop_eq_nil_of_le (by omega)]
    constructor
    · intro h; cases h
    · intro h; omega
end Go.Proofs.YtfppglfajbmapaaDoor.Lo.Ne

/- A set of pairs of branch slices in a map that the call makes: what a look-up finds, what a store adds. -/
namespace Go.Proofs.YtfppglfajbmapaaDoor.Lo
open Go.RowKit

/-- A block of cells that nobody has frozen. -/
def Good (w : World) (b : Nat) : Prop := ∃ cs t, w.heap[b]? = some (.cells cs t (0, 0))
theorem Good.same {w w' : World} {b : Nat} (h : Good w b) (e : w'.heap[b]? = w.heap[b]?) : Good w' b := by
  obtain ⟨cs, t, h⟩ := h
  exact ⟨cs, t, e.trans h⟩
theorem Good.lt {w : World} {b : Nat} (h : Good w b) : b < w.heap.size := by
  obtain ⟨cs, t, h⟩ := h
  exact (Array.getElem?_eq_some_iff.1 h).1
theorem Good.below {w w' : World} {b : Nat} (h : Good w b) (hb : Below w.heap.size w w') : Good w' b := h.same (hb.block _ h.lt)

/-- Two addresses and a length. -/
structure Ky where
  p : Nat
  q : Nat
  n : Nat
def Ky.val (x : Ky) : Value := .agg #[.pointer (some ⟨x.p, 0, none⟩), .pointer (some ⟨x.q, 0, none⟩), .int .i64 x.n]
def Ky.same (x y : Ky) : Bool := (x.p == y.p) && ((x.q == y.q) && (x.n == y.n))
def Ky.Good (w : World) (x : Ky) : Prop := Lo.Good w x.p ∧ Lo.Good w x.q

theorem run_eq_ptr {P : Program} (w : World) (d : Nat) {tp te : TypeId} {j : TypeInfo} (a b : Nat) (hp : P.underlying tp = some (.pointer te)) (hte : P.info? te = some j) (hsz : j.size ≠ 0) (ha : Good w a) (hb : Good w b) :
    (Op.equalIn (d + 1) tp (.pointer (some ⟨a, 0, none⟩)) (.pointer (some ⟨b, 0, none⟩))).run P w = .ok (a == b) w := by
  obtain ⟨ca, ta, ha⟩ := ha
  obtain ⟨cb, tb, hb⟩ := hb
  by_cases h : a = b
  · subst h
    simp [Op.equalIn, run_underlying hp, sizeOf, typeInfo, hte, run_sameAddr_same]
  · have hne : (⟨a, 0, none⟩ : Addr) ≠ ⟨b, 0, none⟩ := by exact fun e => h (congrArg Addr.block e)
    simp [Op.equalIn, run_underlying hp, sizeOf, typeInfo, hte, hsz, run_sameAddr_other w hne ha hb, h]

theorem infoB : (Tryd.prog.info? ( /- t -/ 38)).map (fun i => i.size) = some 5 := by kernel_rfl
theorem keyU : Tryd.prog.underlying ( /- t -/ 185) = some (.struct (Tryd.prog.fieldsOf ( /- t -/ 185))) := by kernel_rfl
theorem keyS : Tryd.prog.stoodInHeld ( /- t -/ 185) = false := by kernel_rfl

theorem ky_equal (w : World) (x y : Ky) (hx : x.Good w) (hy : y.Good w) : (Op.equal ( /- t -/ 185) x.val y.val).run Tryd.prog w = .ok (x.same y) w := by
  obtain ⟨j, hj, hs⟩ : ∃ j, Tryd.prog.info? ( /- t -/ 38) = some j ∧ j.size ≠ 0 := by
    have := infoB
    cases h : Tryd.prog.info? ( /- t -/ 38) with
    | none => rw [h] at this; cases this
    | some i => rw [h] at this; exact ⟨i, rfl, by simp at this; omega⟩
  unfold Op.equal Ky.val
  rw [show Op.maxDepth = 9999 + 1 from rfl, run_equalIn_agg w 9999 _ _ _ keyU keyS]
  simp only [Program.fieldsOf, Tryd.underlying185]
  simp only [Op.eqFields]
  go_simp
  rw [run_eq_ptr w 9998 x.p y.p Tryd.underlying183 hj hs hx.1 hy.1]
  simp only [Result.andThen_ok]
  rw [run_eq_ptr w 9998 x.q y.q Tryd.underlying183 hj hs hx.2 hy.2]
  simp only [Result.andThen_ok, Ky.same]
  cases h1 : (x.p == y.p) <;> cases h2 : (x.q == y.q) <;> by_cases h3 : x.n = y.n <;> (have h4 : ((x.n : Int) = y.n) ↔ (x.n = y.n) := by omega) <;> simp [h3, h4]

theorem ky_check (w : World) (x : Ky) (em : Bool) : (Instr.checkKey em 10000 ( /- t -/ 185) x.val).run Tryd.prog w = .ok () w := by
  unfold Ky.val
  kernel_rfl

theorem ky_ask (w : World) (x : Ky) (hx : x.Good w) : ∀ (es : List MapEntry) (S : List Ky) (i : Nat), es.map (·.key) = S.map Ky.val → (∀ y ∈ S, y.Good w) → (∀ e ∈ es, e.val = .bool true) →
    ∃ r, (Instr.findAsking ( /- t -/ 185) x.val es i).run Tryd.prog w = .ok r w ∧ ((r = none ∧ S.any (fun y => x.same y) = false) ∨ (∃ j, r = some (j, .bool true) ∧ S.any (fun y => x.same y) = true)) := by
  intro es
  induction es with
  | nil =>
    intro S i he _ _
    cases S with
    | nil => exact ⟨none, by simp [Instr.findAsking], Or.inl ⟨rfl, rfl⟩⟩
    | cons => simp at he
  | cons e es ih =>
    intro S i he hS hv
    cases S with
    | nil => simp at he
    | cons y S =>
      simp only [List.map_cons, List.cons.injEq] at he
      obtain ⟨he1, he2⟩ := he
      obtain ⟨r, hr, hc⟩ := ih S (i + 1) he2 (fun z hz => hS z (by simp [hz])) (fun z hz => hv z (by simp [hz]))
      have hq := ky_equal w x y hx (hS y (by simp))
      rw [← he1] at hq
      cases hb : x.same y with
      | true => exact ⟨some (i, .bool true), by simp [Instr.findAsking, hq, hb, Result.andThen, hv e (by simp)], Or.inr ⟨i, rfl, by simp [hb]⟩⟩
      | false => exact ⟨r, by simp [Instr.findAsking, hq, hb, Result.andThen, hr], by simpa [hb] using hc⟩

theorem ky_find (w : World) (x : Ky) (hx : x.Good w) (es : List MapEntry) (S : List Ky) (he : es.map (·.key) = S.map Ky.val) (hS : ∀ y ∈ S, y.Good w) (hv : ∀ e ∈ es, e.val = .bool true) :
    ∃ r, (Instr.findKey ( /- t -/ 185) x.val es).run Tryd.prog w = .ok r w ∧ ((r = none ∧ S.any (fun y => x.same y) = false) ∨ (∃ j, r = some (j, .bool true) ∧ S.any (fun y => x.same y) = true)) := by
  obtain ⟨r, hr, hc⟩ := ky_ask w x hx es S 0 he hS hv
  cases es with
  | nil =>
    cases S with
    | nil => exact ⟨none, by simp [Instr.findKey, run_underlying keyU, Instr.findNow], Or.inl ⟨rfl, rfl⟩⟩
    | cons => simp at he
  | cons e es =>
    refine ⟨r, ?_, hc⟩
    cases S with
    | nil => simp at he
    | cons y S =>
      simp only [List.map_cons, List.cons.injEq] at he
      have h0 : Instr.findNow (.struct (Tryd.prog.fieldsOf ( /- t -/ 185))) x.val (e :: es) 0 = none := by
        simp only [Instr.findNow, Instr.sameNow]
      simp [Instr.findKey, run_underlying keyU, h0, hr]

/-- Block m is a map from pairs to true whose keys are these. -/
def MapIs (w : World) (m : Nat) (S : List Ky) : Prop := ∃ es clock, w.heap[m]? = some (.map es clock) ∧ es.toList.map (·.key) = S.map Ky.val ∧ ∀ e ∈ es.toList, e.val = .bool true
theorem MapIs.same {w w' : World} {m : Nat} {S : List Ky} (h : MapIs w m S) (e : w'.heap[m]? = w.heap[m]?) : MapIs w' m S := by
  obtain ⟨es, clock, h1, h2⟩ := h
  exact ⟨es, clock, e.trans h1, h2⟩
theorem MapIs.lt {w : World} {m : Nat} {S : List Ky} (h : MapIs w m S) : m < w.heap.size := by
  obtain ⟨es, clock, h1, h2⟩ := h
  exact (Array.getElem?_eq_some_iff.1 h1).1
theorem MapIs.made (w : World) : MapIs (w.alloc (.map #[] 0)) w.heap.size [] := ⟨#[], 0, (MapKept.heap_alloc w _).1, rfl, by simp⟩

theorem seen_look {w : World} {m : Nat} {S : List Ky} (h : MapIs w m S) (x : Ky) (hx : x.Good w) (hS : ∀ y ∈ S, y.Good w) :
    (Instr.lookup ( /- t -/ 180) (.map (some m)) x.val false).run Tryd.prog w = .ok (.bool (S.any (fun y => x.same y))) w := by
  obtain ⟨es, clock, h1, h2, h3⟩ := h
  obtain ⟨r, hr, hc⟩ := ky_find w x hx es.toList S h2 hS h3
  have hz : (zeroValue ( /- t -/ 4)).run Tryd.prog w = .ok (.bool false) w := by kernel_rfl
  rcases hc with ⟨rfl, hs⟩ | ⟨j, rfl, hs⟩
  · simp [Instr.lookup, run_underlying Tryd.underlying180, MapKept.run_getObj_map h1, ky_check, hr, hz, hs, Result.andThen]
  · simp [Instr.lookup, run_underlying Tryd.underlying180, MapKept.run_getObj_map h1, ky_check, hr, hs, Result.andThen]

theorem seen_store {w : World} {m : Nat} {S : List Ky} (h : MapIs w m S) (x : Ky) (hx : x.Good w) (hS : ∀ y ∈ S, y.Good w) (hn : S.any (fun y => x.same y) = false) :
    ∃ w', (Instr.mapUpdate ( /- t -/ 180) (.map (some m)) x.val (.bool true)).run Tryd.prog w = .ok () w' ∧ MapIs w' m (S ++ [x]) ∧ w.grownBy w' (some m) := by
  obtain ⟨es, clock, h1, h2, h3⟩ := h
  obtain ⟨r, hr, hc⟩ := ky_find w x hx es.toList S h2 hS h3
  rcases hc with ⟨rfl, _⟩ | ⟨j, rfl, hs⟩
  · refine ⟨ChangeMaps.setBlock w m (.map (es.push ⟨x.val, .bool true, clock⟩) (clock + 1)), ?_, ?_, ?_⟩
    · simp [Instr.mapUpdate, run_underlying Tryd.underlying180, MapKept.run_getObj_map h1, ky_check, hr, MapKept.run_setObj_map _ h1, Result.andThen, ChangeMaps.setBlock]
    · exact ⟨_, _, ChangeMaps.heap_setBlock_same h1 _, by simp [h2], fun e he => by
        simp only [Array.toList_push, List.mem_append, List.mem_singleton] at he
        rcases he with he | rfl
        · exact h3 e he
        · rfl⟩
    · exact ⟨rfl, rfl, rfl, by simp [ChangeMaps.setBlock], fun k _ hk => ChangeMaps.heap_setBlock_other h1 _ (fun e => hk (by rw [e]))⟩
  · rw [hn] at hs
    cases hs

theorem wpList_seen_look (w : World) {ops : Array Oper} {rest : List Oper} {o : Oper} {a : Act} {Q : Exit → Act → World → Prop}
    (hg : o.guard = none) (mo xo : Operand) (hop : o.op = Op.lookup ( /- t -/ 180) mo xo false) (m : Nat) (S : List Ky) (h : MapIs w m S) (x : Ky) (hx : x.Good w) (hS : ∀ y ∈ S, y.Good w)
    (hm : a.eval mo = .map (some m)) (hk : a.eval xo = x.val) (hK : wpList Tryd.prog ops Q rest (a.put o.dst (.bool (S.any (fun y => x.same y)))) w) : wpList Tryd.prog ops Q (o :: rest) a w := by
  refine wpList_plain hg fun K' hK' => ?_
  have hrun := seen_look h x hx hS
  unfold Oper.wp
  simp [execOp, hop, hm, hk, hrun, Result.andThen]
  exact hK' _ _ hK

theorem wpList_seen_store (w : World) {ops : Array Oper} {rest : List Oper} {o : Oper} {a : Act} {Q : Exit → Act → World → Prop}
    (hg : o.guard = none) (mo xo vo : Operand) (hop : o.op = Op.mapUpdate ( /- t -/ 180) mo xo vo) (m : Nat) (S : List Ky) (h : MapIs w m S) (x : Ky) (hx : x.Good w) (hS : ∀ y ∈ S, y.Good w) (hn : S.any (fun y => x.same y) = false)
    (hm : a.eval mo = .map (some m)) (hk : a.eval xo = x.val) (hv : a.eval vo = .bool true) (hK : ∀ w', MapIs w' m (S ++ [x]) → w.grownBy w' (some m) → wpList Tryd.prog ops Q rest (a.put o.dst undef) w') : wpList Tryd.prog ops Q (o :: rest) a w := by
  refine wpList_plain hg fun K' hK' => ?_
  obtain ⟨w', hrun, r1, r2⟩ := seen_store h x hx hS hn
  unfold Oper.wp
  simp [execOp, hop, hm, hk, hv, hrun, Result.andThen]
  exact hK' _ _ (hK w' r1 r2)

end Go.Proofs.YtfppglfajbmapaaDoor.Lo

/- Which letters lie in a short text. -/
namespace Go.Proofs.YtfppglfajbmapaaDoor
open Go.RowKit

/-- The letter lies in the string. -/
def inB (c : UInt8) (s : ByteArray) : Prop := c ∈ s.data.toList
theorem inB_append (c : UInt8) (a b : ByteArray) : inB c (a ++ b) ↔ inB c a ∨ inB c b := by simp [inB, ByteArray.data_append]

theorem dec_letters {i : Nat} (h : i < 40) {c : UInt8} (hc : 65 ≤ c.toNat) : c ∉ Lib.decDigits i := by
  intro hm
  have key : ∀ j : Fin 40, ∀ x ∈ Lib.decDigits j.val, x.toNat < 65 := by decide +kernel
  have := key ⟨i, h⟩ c hm
  omega

theorem lab_letters {s : ByteArray} (h : labB s = true) {c : UInt8} (hc : c.toNat ≤ 67) : ¬ inB c s := by
  intro hm
  unfold labB at h
  unfold inB at hm
  split at h
  · rename_i x e
    rw [e] at hm
    have : c = x := by simpa using hm
    subst this
    have := of_decide_eq_true h
    omega
  · cases h

theorem sign_letters {c : UInt8} (h1 : 65 ≤ c.toNat) (h2 : c.toNat ≤ 67) (x : UInt8) (hx : x.toNat ≤ 64 ∨ 68 ≤ x.toNat) : ¬ inB c ⟨#[x]⟩ := by
  intro hm
  have : c = x := by simpa [inB] using hm
  subst this
  omega

end Go.Proofs.YtfppglfajbmapaaDoor

/- Which roles' letters lie in the text of a valid local type: those of its peers. -/
namespace Go.Proofs.YtfppglfajbmapaaDoor.Lo
open Go.RowKit

/-- Some action of the list, or of the node, names the letter. -/
def namF (c : UInt8) : F → Prop
  | .nil => False
  | .cons _ k fr _ kids rest => ((k = 2 ∨ k = 3) ∧ inB c fr) ∨ namF c kids ∨ namF c rest
def namN (c : UInt8) (k : Int) (fr : ByteArray) (kids : F) : Prop := ((k = 2 ∨ k = 3) ∧ inB c fr) ∨ namF c kids

/-- All labels of the list are labels. -/
def labF : F → Prop
  | .nil => True
  | .cons lab _ _ _ _ rest => labB lab = true ∧ labF rest
theorem labF_of_asc : ∀ (f : F) (p : Option ByteArray), ascB p f = true → labF f := by
  intro f
  induction f with
  | nil => intro p _; trivial
  | cons lab k fr ix kids rest _ ihr =>
    intro p h
    simp only [ascB, Bool.and_eq_true] at h
    exact ⟨h.1.1, ihr _ h.2⟩

theorem nodeT_letters {c : UInt8} (h1 : 65 ≤ c.toNat) (h2 : c.toNat ≤ 67) {k : Int} {fr : ByteArray} {ix : Int} {kids : F} {b u d : Int} (hb : 0 ≤ b) (hu : 0 ≤ u) (hbd : b + d ≤ 40)
    (ih : ∀ (b u d : Int), 0 ≤ b → 0 ≤ u → b + d ≤ 40 → vldF kids b u d = true → (labF kids → (inB c (txF kids .first) ↔ namF c kids)) ∧ (kids.len = 1 → (inB c (txF kids .body) ↔ namF c kids)))
    (h : vldN k fr ix kids b u d = true) : inB c (txN k fr ix kids) ↔ namN c k fr kids := by
  unfold vldN at h
  obtain ⟨hd, hsh, hk⟩ := node_kinds hu h
  unfold txN nodeT namN
  rcases hk with rfl | ⟨rfl, h0, h3, rfl⟩ | ⟨rfl, hv⟩ | ⟨hkk, hv⟩
  · rw [if_pos rfl]
    have hkn := (shape_end hsh).2.2
    subst hkn
    have := sign_letters h1 h2 46 (by decide)
    simp only [namF]
    constructor
    · intro hm; exact (this hm).elim
    · rintro (⟨h, -⟩ | h)
      · exact absurd h (by decide)
      · exact h.elim
  · rw [if_neg (by decide), if_pos rfl, inB_append]
    have e1 := sign_letters h1 h2 35 (by decide)
    have e2 : ¬ inB c (bdec ix) := by
      intro hm
      exact dec_letters (i := ix.toNat) (by omega) h1 (by simpa [inB, bdec] using hm)
    simp only [namF]
    constructor
    · rintro (hm | hm)
      · exact (e1 hm).elim
      · exact (e2 hm).elim
    · rintro (⟨h, -⟩ | h)
      · exact absurd h (by decide)
      · exact h.elim
  · rw [if_neg (by decide), if_neg (by decide), if_pos rfl, inB_append]
    have e1 := sign_letters h1 h2 64 (by decide)
    obtain ⟨-, -, lab, k', fr', ix', kids', rfl, -⟩ := shape_rec hsh
    have := (ih (b + 1) (u + 1) (d - 1) (by omega) (by omega) (by omega) hv).2 rfl
    rw [this]
    constructor
    · rintro (hm | hm)
      · exact (e1 hm).elim
      · exact Or.inr hm
    · rintro (⟨h, -⟩ | h)
      · exact absurd h (by decide)
      · exact Or.inr h
  · rw [if_neg (by omega), if_neg (by omega), if_neg (by omega), inB_append, inB_append, inB_append]
    have e1 := sign_letters h1 h2 125 (by decide)
    have e3 : ¬ inB c (mark k) := by
      unfold mark
      split
      · exact sign_letters h1 h2 33 (by decide)
      · exact sign_letters h1 h2 63 (by decide)
    have hbr := (shape_act hkk hsh).2.2
    unfold branchesB at hbr
    simp only [Bool.and_eq_true] at hbr
    have := (ih b 0 (d - 1) hb (by omega) (by omega) hv).1 (labF_of_asc _ _ hbr.1)
    rw [this]
    constructor
    · rintro (((hm | hm) | hm) | hm)
      · exact Or.inl ⟨hkk, hm⟩
      · exact (e3 hm).elim
      · exact Or.inr hm
      · exact (e1 hm).elim
    · rintro (⟨-, h⟩ | h)
      · exact Or.inl (Or.inl (Or.inl h))
      · exact Or.inl (Or.inr h)

theorem txF_letters {c : UInt8} (h1 : 65 ≤ c.toNat) (h2 : c.toNat ≤ 67) : ∀ (f : F) (b u d : Int), 0 ≤ b → 0 ≤ u → b + d ≤ 40 → vldF f b u d = true →
    (labF f → ∀ i, (inB c (txF f (md i)) ↔ namF c f)) ∧ (f.len = 1 → (inB c (txF f .body) ↔ namF c f)) := by
  intro f
  induction f with
  | nil =>
    intro b u d _ _ _ _
    refine ⟨fun _ i => ?_, fun h => by simp [F.len] at h⟩
    have : txF F.nil (md i) = ⟨#[]⟩ := rfl
    rw [this]
    simp [inB, namF]
  | cons lab k fr ix kids rest ihk ihr =>
    intro b u d hb hu hbd h
    simp only [vldF, Bool.and_eq_true] at h
    obtain ⟨hn, hr⟩ := h
    have hT := nodeT_letters h1 h2 hb hu hbd (fun b' u' d' g1 g2 g3 g4 => ⟨fun hl => (ihk b' u' d' g1 g2 g3 g4).1 hl 0, (ihk b' u' d' g1 g2 g3 g4).2⟩) hn
    unfold namN at hT
    constructor
    · rintro ⟨hl, hl2⟩ i
      have hR := (ihr b u d hb hu hbd hr).1 hl2 (i + 1)
      have e1 : ¬ inB c (sepB i) := by
        unfold sepB
        split
        · exact sign_letters h1 h2 123 (by decide)
        · exact sign_letters h1 h2 124 (by decide)
      have e2 := lab_letters hl h2
      rw [txF_md, inB_append, inB_append, inB_append, hR, hT]
      simp only [namF]
      constructor
      · rintro (((hm | hm) | (hm | hm)) | hm)
        · exact (e1 hm).elim
        · exact (e2 hm).elim
        · exact Or.inl hm
        · exact Or.inr (Or.inl hm)
        · exact Or.inr (Or.inr hm)
      · rintro (hm | hm | hm)
        · exact Or.inl (Or.inr (Or.inl hm))
        · exact Or.inl (Or.inr (Or.inr hm))
        · exact Or.inr hm
    · intro hl
      have hr0 : rest = .nil := nil_of_len (by simp only [F.len] at hl; omega)
      subst hr0
      have hB : txF (.cons lab k fr ix kids .nil) .body = txN k fr ix kids := rfl
      rw [hB, hT]
      simp only [namF, or_false]

/-- A role's letter lies in the text of a valid node just if a message names it. -/
theorem txN_letters {c : UInt8} (h1 : 65 ≤ c.toNat) (h2 : c.toNat ≤ 67) {k : Int} {fr : ByteArray} {ix : Int} {kids : F} {b u d : Int} (hb : 0 ≤ b) (hu : 0 ≤ u) (hbd : b + d ≤ 40) (h : vldN k fr ix kids b u d = true) :
    inB c (txN k fr ix kids) ↔ namN c k fr kids :=
  nodeT_letters h1 h2 hb hu hbd (fun b' u' d' g1 g2 g3 g4 => ⟨fun hl => (txF_letters h1 h2 kids b' u' d' g1 g2 g3 g4).1 hl 0, (txF_letters h1 h2 kids b' u' d' g1 g2 g3 g4).2⟩) h
end Go.Proofs.YtfppglfajbmapaaDoor.Lo

/- What a law's call owes, once it is known that it returns true and has written to no old block. -/
namespace Go.Proofs.YtfppglfajbmapaaDoor
open Go.ChangeShapes Go.WideShapes Go.ChangeAt Go.RowKit

theorem Tryd.own : ownKnob Tryd.prog.godebug = none := by kernel_rfl
theorem Tryd.laidOut : laidOutB Tryd.prog = true := by kernel_rfl

section
variable {H : Type} {enc : TypeId × Value → H} {P : Program}

theorem trodAll_below (hl : laidOutB P = true) {W W' : World} (hb : Below W.heap.size W W') : ∀ (ts : List TypeId) (vs : List Value) (ds : List (DataW H)) (ps : List MemPlace),
    (ts.all fun t => P.readableRec t && decide (t < P.types.size)) = true → DataW.TrodAll enc P W 0 (fun _ => true) true ts vs ds ps → (∀ x ∈ ps, x.block < W.heap.size) →
    DataW.TrodAll enc P W' 0 (fun b => decide (b < W.heap.size)) true ts vs ds ps := by
  intro ts
  induction ts with
  | nil =>
    intro vs ds ps _ h _
    cases vs <;> cases ds <;> first | exact h | exact h.elim
  | cons t ts ih =>
    intro vs ds ps ht h hlt
    cases vs with
    | nil => cases ds <;> exact h.elim
    | cons v vs =>
      cases ds with
      | nil => exact h.elim
      | cons d ds =>
        obtain ⟨p, q, h1, h2, rfl⟩ := h
        simp only [List.all_cons, Bool.and_eq_true, decide_eq_true_eq] at ht
        exact ⟨p, q, Below.trod hl ht.1.1 ht.1.2 h1 hb (fun x hx => hlt x (List.mem_append_left _ hx)), ih vs ds q ht.2 h2 (fun x hx => hlt x (List.mem_append_right _ hx)), rfl⟩

/-- A law that returned true, and below the old heap's size nothing has turned. -/
theorem law_post {f : Func} {s : ChangeSpec} {W W' : World} {args : Array Value} {ds gs : List (DataW H)} {before : List MemPlace} {tb : TypeId} (hl : laidOutB P = true)
    (hp : (f.params.toList.all fun t => P.readableRec t && decide (t < P.types.size)) = true) (hrt : f.resultTypes = #[tb]) (htb : P.underlying tb = some .bool) (hvars : s.vars = [])
    (hfn : s.fn H (ds ++ gs) = { results := [.lit (.bool true)], args := ds }) (hW : DataW.Whole enc P f.params.toList s.vars false W args.toList ds gs before) (hb : Below W.heap.size W W') :
    s.post enc P f false true false false W args (.bool true) W' := by
  have hlt : ∀ p ∈ before, p.block < W.heap.size := fun p hp => hW.lt p hp
  have hW2 := hW
  obtain ⟨p, q, hA, hV, rfl, _, _⟩ := hW2
  rw [hvars] at hV
  obtain ⟨rfl, rfl⟩ := trodVars_none hV
  refine ⟨ds, [], p ++ [], [], p, [], hW, ?_, ?_, ?_, hb.frame _, fun h => by cases h⟩
  · rw [hfn, hrt]
    exact trodAll_mk1 (shut_bool htb true)
  · rw [hfn]
    exact trodAll_below hl hb _ _ _ _ hp hA (fun x hx => hlt x (List.mem_append_left _ hx))
  · rw [hfn, hvars]
    rfl
end
end Go.Proofs.YtfppglfajbmapaaDoor

/- Arguments that are slices of any elements, opened. -/
namespace Go.Proofs.YtfppglfajbmapaaDoor
open Go.ChangeShapes Go.WideShapes Go.RowKit

section
variable {H : Type} {enc : TypeId × Value → H} {W : World} {sp : Nat → Bool}

theorem add_place (a : Addr) (i : Nat) (v : Value) (h : W.cell? (a.add i) = some v) : (a.add i) = ⟨a.block, a.off + i, none⟩ := by
  obtain ⟨b, o, s⟩ := a
  by_cases hi : i = 0
  · subst hi
    simp only [Addr.add, if_pos] at h ⊢
    cases s with
    | none => rfl
    | some t =>
      exfalso
      simp only [World.cell?] at h
      split at h <;> simp at h
  · simp [Addr.add, hi]

theorem open_rows {α : Type} {E : El α} (hst : 0 < E.st) {ts te : TypeId} (hu : Tryd.prog.underlying ts = some (.slice te)) (hc : Tryd.prog.cellsOf te = E.st)
    (hel : ∀ (fuel : Nat) (cs : List Value) (x : DataW H × List MemPlace), DataW.trod enc Tryd.prog W 0 sp true fuel te cs = some x → cs.length = E.st → ∀ b o, (∀ k, k < E.st → W.cell? ⟨b, o + k, none⟩ = cs[k]?) → ∃ y, E.P W b o y)
    {fuel : Nat} {sv : Value} {x : DataW H × List MemPlace} (h : DataW.trod enc Tryd.prog W 0 sp true fuel ts [sv] = some x) : ∃ l, SlG E W sv l := by
  rcases DataW.trod_slice hu h with ⟨h0, -⟩ | ⟨a, len, cap, elems, rest, n, rfl, h0, -, -, hl, hm, hlen, hel', -, -⟩
  · simp only [List.cons.injEq, and_true] at h0
    exact ⟨[], h0 ▸ SlG.nil⟩
  · simp only [List.cons.injEq, and_true] at h0
    subst h0
    rw [hc] at hel'
    have one : ∀ i, i < len → (i = 0 → a = ⟨a.block, a.off, none⟩) ∧ ∃ y, E.P W a.block (a.off + i * E.st) y := by
      intro i hi
      have key := hel' i hi
      rw [List.getElem?_eq_getElem (by omega)] at key
      obtain ⟨cs', h1, h2⟩ := Option.bind_eq_some_iff.1 key
      obtain ⟨-, hl6, hat⟩ := World.cells?_some h1
      have a0 := hat 0 hst
      rw [List.getElem?_eq_getElem (by omega)] at a0
      have e := add_place a (i * E.st) _ (show W.cell? (a.add (i * E.st)) = some cs'[0] by simpa [Addr.add] using a0)
      refine ⟨?_, hel n cs' _ h2 hl6 _ _ (fun k hk => ?_)⟩
      · rintro rfl
        simpa [Addr.add] using e
      · have := hat k hk
        rw [e] at this
        simp only [Addr.add] at this
        split at this
        · rename_i hk0
          subst hk0
          exact this
        · exact this
    have down : ∀ j, j ≤ len → ∃ g : List α, g.length = j ∧ RowG E W a.block (a.off + (len - j) * E.st) g := by
      intro j
      induction j with
      | zero => intro _; exact ⟨[], rfl, trivial⟩
      | succ j ihj =>
        intro hj
        obtain ⟨g, hg, hr⟩ := ihj (by omega)
        obtain ⟨-, y, hy⟩ := one (len - (j + 1)) (by omega)
        refine ⟨y :: g, by simp only [List.length_cons]; omega, hy, ?_⟩
        rw [show a.off + (len - (j + 1)) * E.st + E.st = a.off + (len - j) * E.st by rw [show len - j = (len - (j + 1)) + 1 by omega, Nat.succ_mul, Nat.add_assoc]]
        exact hr
    obtain ⟨f, hf, hr⟩ := down len (Nat.le_refl _)
    refine ⟨f, some a, cap, by rw [hf], by omega, hm, ?_⟩
    cases f with
    | nil => exact Or.inl rfl
    | cons y rest' =>
      right
      simp only [List.length_cons] at hf
      obtain ⟨ha, -⟩ := one 0 (by omega)
      refine ⟨a.block, a.off, by rw [← ha rfl], ?_⟩
      simpa using hr

end
end Go.Proofs.YtfppglfajbmapaaDoor

/- An argument that is a row of bytes, opened. -/
namespace Go.Proofs.YtfppglfajbmapaaDoor
open Go.ChangeShapes Go.WideShapes Go.RowKit

section
variable {H : Type} {enc : TypeId × Value → H} {W : World} {sp : Nat → Bool}

theorem cells_u8 : Tryd.prog.cellsOf ( /- t -/ 5) = elY.st := by kernel_rfl
theorem open_bytes {v : Value} {d : DataW H} {p : List MemPlace} {ts : TypeId} (hu : Tryd.prog.underlying ts = some (.slice ( /- t -/ 5))) (hv : ∃ a len cap, v = .slice a len cap)
    (h : DataW.Trod enc Tryd.prog W 0 sp true ts v d p) : ∃ l, SlG elY W v l := by
  obtain ⟨fuel, hf⟩ := h
  obtain ⟨a, len, cap, rfl⟩ := hv
  refine open_rows (E := elY) (by decide) hu cells_u8 (fun fuel cs x hx hl b o hcell => ?_) hf
  obtain ⟨n, rfl, rfl, hw⟩ := DataW.trod_int (k := .u8) (show Tryd.prog.underlying ( /- t -/ 5) = some (.int .u8) by kernel_rfl) hx
  have hb : 0 ≤ n ∧ n < 256 := by
    simp [Lit.wf, IntKind.min, IntKind.max, IntKind.bits, IntKind.signed] at hw
    omega
  obtain ⟨m, rfl⟩ : ∃ m : Nat, n = (m : Int) := ⟨n.toNat, by omega⟩
  exact ⟨m, by omega, hcell 0 (by decide)⟩
end
end Go.Proofs.YtfppglfajbmapaaDoor
