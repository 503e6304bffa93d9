/- l2Parse of the model: an action; every depth; how large what it reads is. -/
import Derived.Test.YtbonmdkfmgahbaaPo
namespace Go.Proofs.Ytbonmdkfmgahbaa.Lo.Ne
open Go.RowKit

set_option maxHeartbeats 1600000 in
set_option maxRecDepth 100000 in
theorem sp_act (d : Nat) (hd : d ≤ 40) (ih : SpAt d) (w : World) (T : List UInt8) (p : Nat) (hT : T.length ≤ 1048576) (hp : p + 2 < T.length) (h46 : hdC (T.drop p) ≠ 46) (h35 : hdC (T.drop p) ≠ 35) (h64 : hdC (T.drop p) ≠ 64) (h123 : hdC (T.drop (p + 2)) = 123) :
    Calls Try.prog 23 #[.string (bs T), .int .i64 (p : Nat), .int .i64 ((d + 1 : Nat) : Int)] w (SpPost T (sp (d + 1) (T.drop p)) w) := by
  have hsz : (bs T).size = T.length := bs_size T
  obtain ⟨hin, hget, hdr⟩ := head_at (show p < T.length by omega)
  obtain ⟨hin2, hget2, hdr2⟩ := head_at hp
  obtain ⟨r, hr⟩ : ∃ r, r = (spB (sp d) 5 (T.drop (p + 2)) .nil).map (fun q => ((⟨if hdC (T.drop (p + 1)) = 33 then 2 else 3, ⟨#[hdC (T.drop p)]⟩, 0, q.1⟩ : Nd), q.2)) := ⟨_, rfl⟩
  have HIH := hide (fun (W : World) => sp_action d hd ih W T p hT hp _ rfl r hr)
  have HR : sp (d + 1) (T.drop p) = r := by
    rw [hr]
    generalize hc : hdC (T.drop p) = c at *
    rw [sp, hdr, if_neg (by simpa [nxC] using h46), if_neg (fun h => by simp [nxC] at h; exact h35 h.1), if_neg (by simpa [nxC] using h64)]
    rw [show (c :: T.drop (p + 1)).tail.tail = T.drop (p + 2) by simp [List.tail_drop], if_pos (by rw [hdr2, h123]; rfl)]
    cases spB (sp d) 5 (T.drop (p + 2)) .nil <;> rfl
  rw [HR]
  have hlt : (p : Int) < (T.length : Int) := by omega
  have hlt2 : (p : Int) + 2 < (T.length : Int) := by omega
  have h1 : ¬ ((d + 1 : Nat) : Int) < 1 := by omega
  have hcb : (((bs T)[p]'hin).toNat : Int) ≠ 46 := by rw [hget]; exact fun h => h46 (UInt8.toNat_inj.1 (by show _ = 46; omega))
  have hcd : (((bs T)[p]'hin).toNat : Int) ≠ 64 := by rw [hget]; exact fun h => h64 (UInt8.toNat_inj.1 (by show _ = 64; omega))
  have hce : (((bs T)[p]'hin).toNat : Int) ≠ 35 := by rw [hget]; exact fun h => h35 (UInt8.toNat_inj.1 (by show _ = 35; omega))
  have hcf : (((bs T)[p + 2]'hin2).toNat : Int) = 123 := by rw [hget2, h123]; rfl
  clear hget hget2 hdr hdr2 h46 h35 h64 h123 ih hr HR
  go_enter Try.func23, Try.ntmps23
  go_wp2_with fail
  have hx := Box4.now w (.int .i64 0) (.string ⟨#[]⟩) (.int .i64 0) (.slice none 0 0) ( /- t -/ 24)
  have hb1 := alloc_below w (.cells #[.int .i64 0, .string ⟨#[]⟩, .int .i64 0, .slice none 0 0] ( /- t -/ 24))
  have hw1 : w.heap.size < (w.alloc (.cells #[.int .i64 0, .string ⟨#[]⟩, .int .i64 0, .slice none 0 0] ( /- t -/ 24))).heap.size := by simp
  generalize w.alloc (.cells #[.int .i64 0, .string ⟨#[]⟩, .int .i64 0, .slice none 0 0] ( /- t -/ 24)) = W at *
  refine (HIH.out W).mono ?_
  intro e w4 hp4
  have HX4 := hide (hx.below hp4.1)
  obtain ⟨y0, y1, y2, y3⟩ := HX4.out.cells
  have hf := box4_frozen HX4.out
  have hl := HX4.out.lt
  have HB4 := hide (hb1.trans (hp4.1.mono hb1.size))
  have hs4 := hp4.1.size
  clear hx hb1
  cases hrr : r with
  | none =>
    obtain ⟨k, fr, ix, a, m, cp, rfl⟩ := hp4.2.2 hrr
    clear hp4
    go_wp2_with fail
    refine bodyPost_ret (v := .tuple #[.agg #[.int .i64 k, .string fr, .int .i64 ix, .slice a m cp], .int .i64 (-1)]) (by simp [results, Try.results23, go_sem, *]) rfl ?_
    exact sp_not hrr (below_set4 HB4.out (Nat.le_refl _) _ _ _ _)
  | some qq =>
    obtain ⟨N, t⟩ := qq
    obtain ⟨q, u, bs2, hq, ht, rfl, how, hge, hnd⟩ := hp4.2.1 N t hrr
    have HOW := hide how
    have HGE := hide hge
    obtain ⟨ua, uc, rfl⟩ := how.val
    clear hp4 how hge
    go_wp2_with fail
    refine bodyPost_ret (v := .tuple #[.agg #[.int .i64 N.k, .string N.fr, .int .i64 N.ix, .slice ua N.kids.len uc], .int .i64 (q : Nat)]) (by simp [results, Try.results23, go_sem, *]) rfl ?_
    exact sp_yes hrr hq ht (below_set4 HB4.out (Nat.le_refl _) _ _ _ _) (ow_set4 HOW.out (fun x hx => by have := HGE.out x hx; omega) _ _ _ _) (fun x hx => by have := HGE.out x hx; omega) hnd

theorem sp_every : ∀ d, d ≤ 40 → SpAt d := by
  intro d
  induction d with
  | zero => exact fun _ w T p _ _ => sp_out 0 (by omega) w T p (Or.inl rfl)
  | succ d ih =>
    intro hd w T p hT hpl
    have ih := ih (by omega)
    by_cases hpe : p = T.length
    · exact sp_out (d + 1) hd w T p (Or.inr hpe)
    have hp : p < T.length := by omega
    by_cases h46 : hdC (T.drop p) = 46
    · exact sp_dot d (by omega) w T p hT hp h46
    by_cases h35 : hdC (T.drop p) = 35 ∧ p + 1 < T.length
    · exact sp_hash d (by omega) w T p hT h35.2 h35.1
    by_cases h64 : hdC (T.drop p) = 64
    · exact sp_at d (by omega) ih w T p hT hp h64
    by_cases h123 : p + 2 < T.length ∧ hdC (T.drop (p + 2)) = 123
    · exact sp_act d (by omega) ih w T p hT h123.1 h46 (fun h => h35 ⟨h, by omega⟩) h64 h123.2
    · refine sp_other d (by omega) w T p hT hp h46 (fun h => Nat.le_of_not_lt (fun k => h35 ⟨h, k⟩)) h64 ?_
      by_cases h2 : p + 2 < T.length
      · obtain ⟨-, -, hdr⟩ := head_at h2
        have hne : ¬ hdC (T.drop (p + 2)) = 123 := fun h => h123 ⟨h2, h⟩
        generalize hdC (T.drop (p + 2)) = c at *
        rw [hdr]
        simpa [nxC] using hne
      · rw [List.drop_eq_nil_of_le (by omega)]
        rfl

theorem spB_sz (g : List UInt8 → Option (Nd × List UInt8)) (hg : ∀ s N t, g s = some (N, t) → N.kids.sz + 1 + t.length ≤ s.length) : ∀ (j : Nat) (s : List UInt8) (acc f : F) (t : List UInt8), spB g j s acc = some (f, t) → f.sz + t.length ≤ acc.sz + s.length := by
  have hex : ∀ (s : List UInt8) (acc f : F) (t : List UInt8), exB s acc = some (f, t) → f.sz + t.length ≤ acc.sz + s.length := by
    intro s acc f t h
    unfold exB at h
    split at h
    · injection h with h
      injection h with h1 h2
      subst h1 h2
      simp
    · cases h
  intro j
  induction j with
  | zero => exact fun s acc f t h => hex s acc f t h
  | succ j ih =>
    intro s acc f t h
    rw [spB] at h
    split at h
    · rename_i hgo
      cases hr : g s.tail.tail with
      | none => rw [hr] at h; cases h
      | some q =>
        obtain ⟨N, t1⟩ := q
        rw [hr] at h
        have h1 := ih _ _ _ _ h
        have h2 := hg _ _ _ hr
        rw [F.sz_app] at h1
        simp only [brn, F.sz] at h1
        have h3 : s.tail.tail.length ≤ s.length := by simp only [List.length_tail]; omega
        omega
    · exact hex s acc f t h
theorem sp_sz : ∀ d s N t, sp d s = some (N, t) → N.kids.sz + 1 + t.length ≤ s.length := by
  intro d
  induction d with
  | zero => intro s N t h; cases h
  | succ d ih =>
    intro s N t h
    rw [sp] at h
    split at h
    · rename_i h46
      injection h with h
      injection h with h1 h2
      subst h1 h2
      have := nx_len h46
      show 0 + 1 + s.tail.length ≤ s.length
      omega
    split at h
    · rename_i h35
      injection h with h
      injection h with h1 h2
      subst h1 h2
      simp only [Bool.and_eq_true] at h35
      have e1 := nx_len h35.1
      have e2 : s.tail.tail.length ≤ s.tail.length := by simp only [List.length_tail]; omega
      show 0 + 1 + s.tail.tail.length ≤ s.length
      omega
    split at h
    · rename_i h64
      cases hr : sp d s.tail with
      | none => rw [hr] at h; cases h
      | some q =>
        obtain ⟨M, t'⟩ := q
        rw [hr] at h
        simp only [Option.some.injEq, Prod.mk.injEq] at h
        obtain ⟨rfl, rfl⟩ := h
        have e1 := nx_len h64
        have e2 := ih _ _ _ hr
        simp only [ndRec, F.sz]
        omega
    split at h
    · rename_i h123
      cases hr : spB (sp d) 5 s.tail.tail .nil with
      | none => rw [hr] at h; cases h
      | some q =>
        obtain ⟨f, t'⟩ := q
        rw [hr] at h
        simp only [Option.some.injEq, Prod.mk.injEq] at h
        obtain ⟨rfl, rfl⟩ := h
        have e1 := spB_sz (sp d) ih _ _ _ _ _ hr
        have e2 : s.tail.tail.length + 2 ≤ s.length := by
          cases s with
          | nil => cases h123
          | cons a s => cases s with
            | nil => cases h123
            | cons b s => simp
        simp only [F.sz] at e1 ⊢
        omega
    · cases h
theorem resLM (s : List UInt8) : resL s = resM s := by
  cases hl : resL s with
  | some N => exact ((resM_iff s N).2 ((resL_iff s N).1 hl)).symm
  | none =>
    cases hm : resM s with
    | none => rfl
    | some N =>
      rw [(resL_iff s N).2 ((resM_iff s N).1 hm)] at hl
      cases hl
end Go.Proofs.Ytbonmdkfmgahbaa.Lo.Ne
