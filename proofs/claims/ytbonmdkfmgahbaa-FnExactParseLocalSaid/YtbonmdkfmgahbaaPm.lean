/- l2Parse of the model: what it owes; an end, a variable. -/
import Derived.Test.YtbonmdkfmgahbaaPs
import Derived.Test.YtbonmdkfmgahbaaPl
namespace Go.Proofs.Ytbonmdkfmgahbaa.Lo.Ne
open Go.RowKit

def SpPost (T : List UInt8) (r : Option (Nd × List UInt8)) (w : World) (e : Ending) (w' : World) : Prop :=
  Below w.heap.size w w' ∧ (∀ N t, r = some (N, t) → ∃ (q : Nat) (u : Value) (bs : List Nat), q ≤ T.length ∧ t = T.drop q ∧ e = .returned (.tuple #[.agg #[.int .i64 N.k, .string N.fr, .int .i64 N.ix, u], .int .i64 (q : Nat)]) ∧ Ow w' u N.kids bs ∧ (∀ b, b ∈ bs → w.heap.size ≤ b) ∧ bs.Nodup) ∧
  (r = none → ∃ k fr ix a m cp, e = .returned (.tuple #[.agg #[.int .i64 k, .string fr, .int .i64 ix, .slice a m cp], .int .i64 (-1)]))
theorem sp_yes {T t : List UInt8} {r : Option (Nd × List UInt8)} {N : Nd} (h : r = some (N, t)) {w w' : World} {u : Value} {bs : List Nat} {q : Nat} (hq : q ≤ T.length) (ht : t = T.drop q) (hb : Below w.heap.size w w') (how : Ow w' u N.kids bs) (hge : ∀ b, b ∈ bs → w.heap.size ≤ b) (hnd : bs.Nodup) :
    SpPost T r w (.returned (.tuple #[.agg #[.int .i64 N.k, .string N.fr, .int .i64 N.ix, u], .int .i64 (q : Nat)])) w' := by
  refine ⟨hb, fun N' t' h' => ?_, fun h' => by rw [h] at h'; cases h'⟩
  rw [h] at h'
  injection h' with h'
  injection h' with h1 h2
  subst h1 h2
  exact ⟨q, u, bs, hq, ht, rfl, how, hge, hnd⟩
theorem sp_not {T : List UInt8} {r : Option (Nd × List UInt8)} (h : r = none) {w w' : World} {k ix : Int} {fr : ByteArray} {a : Option Addr} {m cp : Nat} (hb : Below w.heap.size w w') :
    SpPost T r w (.returned (.tuple #[.agg #[.int .i64 k, .string fr, .int .i64 ix, .slice a m cp], .int .i64 (-1)])) w' := by
  refine ⟨hb, fun N t h' => ?_, fun _ => ⟨k, fr, ix, a, m, cp, rfl⟩⟩
  rw [h] at h'
  cases h'
def SpAt (d : Nat) : Prop := ∀ (w : World) (T : List UInt8) (p : Nat), T.length ≤ 1048576 → p ≤ T.length →
  Calls Try.prog 23 #[.string (bs T), .int .i64 (p : Nat), .int .i64 (d : Nat)] w (SpPost T (sp d (T.drop p)) w)

theorem head_at {T : List UInt8} {p : Nat} (h : p < T.length) : ∃ hin : p < (bs T).size, (bs T)[p]'hin = hdC (T.drop p) ∧ T.drop p = hdC (T.drop p) :: T.drop (p + 1) := by
  refine ⟨by rw [bs_size]; exact h, ?_, ?_⟩
  · rw [List.drop_eq_getElem_cons h]
    rfl
  · conv => lhs; rw [List.drop_eq_getElem_cons h]
    rw [List.drop_eq_getElem_cons h]
    rfl

set_option maxHeartbeats 1600000 in
set_option maxRecDepth 100000 in
theorem sp_out (d : Nat) (hd : d ≤ 40) (w : World) (T : List UInt8) (p : Nat) (h : d = 0 ∨ p = T.length) :
    Calls Try.prog 23 #[.string (bs T), .int .i64 (p : Nat), .int .i64 (d : Nat)] w (SpPost T (sp d (T.drop p)) w) := by
  have hsz : (bs T).size = T.length := bs_size T
  have HN : Hid (sp d (T.drop p) = none) := by
    unfold Hid
    rcases h with rfl | rfl
    · rfl
    · rw [List.drop_length]
      cases d <;> rfl
  generalize sp d (T.drop p) = r at *
  by_cases hd0 : d = 0
  · subst hd0
    clear h
    go_enter Try.func23, Try.ntmps23
    go_wp2_with fail
    refine bodyPost_ret (v := .tuple #[.agg #[.int .i64 0, .string ⟨#[]⟩, .int .i64 0, .slice none 0 0], .int .i64 (-1)]) (by simp [results, Try.results23, go_sem, *]) rfl ?_
    exact sp_not HN.out (alloc_below w _)
  · obtain rfl : p = T.length := by omega
    have h1 : ¬ (d : Int) < 1 := by omega
    clear h hd0
    go_enter Try.func23, Try.ntmps23
    go_wp2_with fail
    refine bodyPost_ret (v := .tuple #[.agg #[.int .i64 0, .string ⟨#[]⟩, .int .i64 0, .slice none 0 0], .int .i64 (-1)]) (by simp [results, Try.results23, go_sem, *]) rfl ?_
    exact sp_not HN.out (alloc_below w _)

set_option maxHeartbeats 1600000 in
set_option maxRecDepth 100000 in
theorem sp_dot (d : Nat) (hd : d ≤ 40) (w : World) (T : List UInt8) (p : Nat) (hT : T.length ≤ 1048576) (hp : p < T.length) (hc : hdC (T.drop p) = 46) :
    Calls Try.prog 23 #[.string (bs T), .int .i64 (p : Nat), .int .i64 ((d + 1 : Nat) : Int)] w (SpPost T (sp (d + 1) (T.drop p)) w) := by
  have hsz : (bs T).size = T.length := bs_size T
  obtain ⟨hin, hget, hdr⟩ := head_at hp
  have HS : Hid (sp (d + 1) (T.drop p) = some (ndEnd, T.drop (p + 1))) := by
    unfold Hid
    rw [hdr, hc]
    rfl
  have hlt : (p : Int) < (T.length : Int) := by omega
  have hcb : (((bs T)[p]'hin).toNat : Int) = 46 := by rw [hget, hc]; rfl
  have h1 : ¬ ((d + 1 : Nat) : Int) < 1 := by omega
  clear hget hdr hc
  generalize sp (d + 1) (T.drop p) = r at *
  go_enter Try.func23, Try.ntmps23
  go_wp2_with fail
  refine bodyPost_ret (v := .tuple #[.agg #[.int .i64 1, .string ⟨#[]⟩, .int .i64 0, .slice none 0 0], .int .i64 ((p + 1 : Nat) : Int)]) (by simp [results, Try.results23, go_sem, *]) rfl ?_
  exact sp_yes (N := ndEnd) (bs := []) HS.out (by omega) rfl (alloc_below w _) ⟨none, 0, rfl, Nat.le_refl _, Nat.zero_le _, Or.inl ⟨rfl, rfl⟩⟩ (fun _ h => absurd h (List.not_mem_nil)) List.nodup_nil

set_option maxHeartbeats 1600000 in
set_option maxRecDepth 100000 in
theorem sp_hash (d : Nat) (hd : d ≤ 40) (w : World) (T : List UInt8) (p : Nat) (hT : T.length ≤ 1048576) (hp : p + 1 < T.length) (hc : hdC (T.drop p) = 35) :
    Calls Try.prog 23 #[.string (bs T), .int .i64 (p : Nat), .int .i64 ((d + 1 : Nat) : Int)] w (SpPost T (sp (d + 1) (T.drop p)) w) := by
  have hsz : (bs T).size = T.length := bs_size T
  obtain ⟨hin, hget, hdr⟩ := head_at (show p < T.length by omega)
  obtain ⟨hin1, hget1, hdr1⟩ := head_at hp
  generalize hcc : hdC (T.drop (p + 1)) = c at *
  have HS : Hid (sp (d + 1) (T.drop p) = some (ndVar c, T.drop (p + 2))) := by
    unfold Hid
    rw [hdr, hc, hdr1]
    rfl
  have hlt : (p : Int) < (T.length : Int) := by omega
  have hlt1 : (p : Int) + 1 < (T.length : Int) := by omega
  have hcb : (((bs T)[p]'hin).toNat : Int) = 35 := by rw [hget, hc]; rfl
  have h1 : ¬ ((d + 1 : Nat) : Int) < 1 := by omega
  have hc256 := c.toNat_lt
  clear hget hdr hc hdr1 hcc
  generalize sp (d + 1) (T.drop p) = r at *
  go_enter Try.func23, Try.ntmps23
  go_wp2_with fail
  refine bodyPost_ret (v := .tuple #[.agg #[.int .i64 5, .string ⟨#[]⟩, .int .i64 ((c.toNat : Int) - 48), .slice none 0 0], .int .i64 ((p + 2 : Nat) : Int)]) (by simp [results, Try.results23, go_sem, *]) rfl ?_
  exact sp_yes (N := ndVar c) (bs := []) HS.out (by omega) rfl (alloc_below w _) ⟨none, 0, rfl, Nat.le_refl _, Nat.zero_le _, Or.inl ⟨rfl, rfl⟩⟩ (fun _ h => absurd h (List.not_mem_nil)) List.nodup_nil

set_option maxHeartbeats 1600000 in
set_option maxRecDepth 100000 in
/-- No node begins so. -/
theorem sp_other (d : Nat) (hd : d ≤ 40) (w : World) (T : List UInt8) (p : Nat) (hT : T.length ≤ 1048576) (hp : p < T.length) (h46 : hdC (T.drop p) ≠ 46) (h35 : hdC (T.drop p) = 35 → T.length ≤ p + 1) (h64 : hdC (T.drop p) ≠ 64) (h123 : nxC (T.drop (p + 2)) 123 = false) :
    Calls Try.prog 23 #[.string (bs T), .int .i64 (p : Nat), .int .i64 ((d + 1 : Nat) : Int)] w (SpPost T (sp (d + 1) (T.drop p)) w) := by
  have hsz : (bs T).size = T.length := bs_size T
  obtain ⟨hin, hget, hdr⟩ := head_at hp
  have hlt : (p : Int) < (T.length : Int) := by omega
  have h1 : ¬ ((d + 1 : Nat) : Int) < 1 := by omega
  have HN : Hid (sp (d + 1) (T.drop p) = none) := by
    unfold Hid
    generalize hc : hdC (T.drop p) = c at *
    rw [sp, hdr, if_neg (by simpa [nxC] using h46), if_neg (fun h => by simp [nxC] at h; have := h35 h.1; omega), if_neg (by simpa [nxC] using h64)]
    rw [show (c :: T.drop (p + 1)).tail.tail = T.drop (p + 2) by simp [List.tail_drop], if_neg (by rw [h123]; decide)]
  have hcb : (((bs T)[p]'hin).toNat : Int) ≠ 46 := by rw [hget]; exact fun h => h46 (UInt8.toNat_inj.1 (by show _ = 46; omega))
  have hcd : (((bs T)[p]'hin).toNat : Int) ≠ 64 := by rw [hget]; exact fun h => h64 (UInt8.toNat_inj.1 (by show _ = 64; omega))
  by_cases h35' : hdC (T.drop p) = 35
  · have hl := h35 h35'
    have hce : (((bs T)[p]'hin).toNat : Int) = 35 := by rw [hget, h35']; rfl
    have hl1 : ¬ (p : Int) + 1 < (T.length : Int) := by omega
    have hl2 : ¬ (p : Int) + 2 < (T.length : Int) := by omega
    clear hget hdr h46 h35 h64 h123 h35' hcb hcd
    generalize sp (d + 1) (T.drop p) = r at *
    go_enter Try.func23, Try.ntmps23
    go_wp2_with fail
    refine bodyPost_ret (v := .tuple #[.agg #[.int .i64 0, .string ⟨#[]⟩, .int .i64 0, .slice none 0 0], .int .i64 (-1)]) (by simp [results, Try.results23, go_sem, *]) rfl ?_
    exact sp_not HN.out (alloc_below w _)
  have hce : (((bs T)[p]'hin).toNat : Int) ≠ 35 := by rw [hget]; exact fun h => h35' (UInt8.toNat_inj.1 (by show _ = 35; omega))
  by_cases hl : T.length ≤ p + 2
  · have hl2 : ¬ (p : Int) + 2 < (T.length : Int) := by omega
    clear hget hdr h46 h35 h64 h123 h35'
    generalize sp (d + 1) (T.drop p) = r at *
    go_enter Try.func23, Try.ntmps23
    go_wp2_with fail
    refine bodyPost_ret (v := .tuple #[.agg #[.int .i64 0, .string ⟨#[]⟩, .int .i64 0, .slice none 0 0], .int .i64 (-1)]) (by simp [results, Try.results23, go_sem, *]) rfl ?_
    exact sp_not HN.out (alloc_below w _)
  · obtain ⟨hin2, hget2, hdr2⟩ := head_at (show p + 2 < T.length by omega)
    have hl2 : (p : Int) + 2 < (T.length : Int) := by omega
    have hcf : (((bs T)[p + 2]'hin2).toNat : Int) ≠ 123 := by
      rw [hget2]
      intro h
      have : hdC (T.drop (p + 2)) = 123 := UInt8.toNat_inj.1 (by show _ = 123; omega)
      rw [hdr2, this] at h123
      cases h123
    clear hget hdr h46 h35 h64 h123 h35' hget2 hdr2
    generalize sp (d + 1) (T.drop p) = r at *
    go_enter Try.func23, Try.ntmps23
    go_wp2_with fail
    refine bodyPost_ret (v := .tuple #[.agg #[.int .i64 0, .string ⟨#[]⟩, .int .i64 0, .slice none 0 0], .int .i64 (-1)]) (by simp [results, Try.results23, go_sem, *]) rfl ?_
    exact sp_not HN.out (alloc_below w _)
end Go.Proofs.Ytbonmdkfmgahbaa.Lo.Ne
