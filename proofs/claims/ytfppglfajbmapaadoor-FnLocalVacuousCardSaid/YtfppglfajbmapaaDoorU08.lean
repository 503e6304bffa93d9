/- Po, Pq, LSc, LFt, LFm, Pr, LDl, LQh, LQv, LQc, LQj, LSb -/
import Derived.Test.YtfppglfajbmapaaDoorU06
import Derived.Test.YtfppglfajbmapaaDoorU07
import Derived.Test.YtfppglfajbmapaaDoorU09
import Derived.Test.YtfppglfajbmapaaDoorU00
import Derived.Test.YtfppglfajbmapaaDoorU02
import Derived.RegionTactic
import Derived.Deep.RegionHeld3
import Derived.StillTailTactics
import Derived.Test.YtfppglfajbmapaaDoorU05
import Derived.Handy
import Derived.Deep.LoopGhost
import Derived.Deep.AppendLies
/- l2ParseAction of the model. -/
namespace Go.Proofs.YtfppglfajbmapaaDoor.Lo.Ne
open Go.RowKit

theorem sp_action (d : Nat) (hd : d ≤ 40) (ih : SpAt d) (w : World) (T : List UInt8) (p : Nat) (hT : T.length ≤ 1048576) (hp : p + 2 < T.length) (R : Option (F × List UInt8)) (hR : R = spB (sp d) 5 (T.drop (p + 2)) .nil) (r : Option (Nd × List UInt8))
    (hr : r = R.map (fun q => (⟨if hdC (T.drop (p + 1)) = 33 then 2 else 3, ⟨#[hdC (T.drop p)]⟩, 0, q.1⟩, q.2))) :
    Calls Tryd.prog 195 #[.string (bs T), .int .i64 (p : Nat), .int .i64 ((d + 1 : Nat) : Int)] w (SpPost T r w) := by
  by_cases h33 : hdC (T.drop (p + 1)) = 33
  · exact sp_send d hd ih w T p hT hp R hR r h33 (by rw [hr, if_pos h33])
  · exact sp_recv d hd ih w T p hT hp R hR r h33 (by rw [hr, if_neg h33])
end Go.Proofs.YtfppglfajbmapaaDoor.Lo.Ne

/- l2Parse of the model: an action; every depth; how large what it reads is. -/
namespace Go.Proofs.YtfppglfajbmapaaDoor.Lo.Ne
open Go.RowKit

set_option maxHeartbeats 1600000 in
set_option maxRecDepth 100000 in
theorem sp_act (d : Nat) (hd : d ≤ 40) (ih : SpAt d) (w : World) (T : List UInt8) (p : Nat) (hT : T.length ≤ 1048576) (hp : p + 2 < T.length) (h46 : hdC (T.drop p) ≠ 46) (h35 : hdC (T.drop p) ≠ 35) (h64 : hdC (T.drop p) ≠ 64) (h123 : hdC (T.drop (p + 2)) = 123) :
    Calls Tryd.prog 178 #[.string (bs T), .int .i64 (p : Nat), .int .i64 ((d + 1 : Nat) : Int)] w (SpPost T (sp (d + 1) (T.drop p)) w) := by
  have hsz : (bs T).size = T.length := bs_size T
  obtain ⟨hin, hget, hdr⟩ := head_at (show p < T.length by omega)
  obtain ⟨hin2, hget2, hdr2⟩ := head_at hp
  obtain ⟨r, hr⟩ : ∃ r, r = (spB (sp d) 5 (T.drop (p + 2)) .nil).map (fun q => ((⟨if hdC (T.drop (p + 1)) = 33 then 2 else 3, ⟨#[hdC (T.drop p)]⟩, 0, q.1⟩ : Nd), q.2)) := ⟨_, rfl⟩
  have HIH := hide (fun (W : World) => sp_action d hd ih W T p hT hp _ rfl r hr)
  have HR : sp (d + 1) (T.drop p) = r := by
    rw [hr]
    generalize hc : hdC (T.drop p) = c at *
    rw [sp, hdr, if_neg (by simpa [nxC] using h46), if_neg (fun h => by simp [nxC] at h; exact h35 h.1), if_neg (by simpa [nxC] using h64)]
    rw [show (c :: T.drop (p + 1)).tail.tail = T.drop (p + 2) by simp [List.tail_drop], if_pos (by rw [hdr2, h123]; rfl)]
    cases spB (sp d) 5 (T.drop (p + 2)) .nil <;> rfl
  rw [HR]
  have hlt : (p : Int) < (T.length : Int) := by omega
  have hlt2 : (p : Int) + 2 < (T.length : Int) := by omega
  have h1 : ¬ ((d + 1 : Nat) : Int) < 1 := by omega
  have hcb : (((bs T)[p]'hin).toNat : Int) ≠ 46 := by rw [hget]; exact fun h => h46 (UInt8.toNat_inj.1 (by show _ = 46; omega))
  have hcd : (((bs T)[p]'hin).toNat : Int) ≠ 64 := by rw [hget]; exact fun h => h64 (UInt8.toNat_inj.1 (by show _ = 64; omega))
  have hce : (((bs T)[p]'hin).toNat : Int) ≠ 35 := by rw [hget]; exact fun h => h35 (UInt8.toNat_inj.1 (by show _ = 35; omega))
  have hcf : (((bs T)[p + 2]'hin2).toNat : Int) = 123 := by rw [hget2, h123]; rfl
  clear hget hget2 hdr hdr2 h46 h35 h64 h123 ih hr HR
  go_enter Tryd.func178, Tryd.ntmps178
  go_wp2_with fail
  have hx := Box4.now w (.int .i64 0) (.string ⟨#[]⟩) (.int .i64 0) (.slice none 0 0) ( /- t -/ 35)
  have hb1 := alloc_below w (.cells #[.int .i64 0, .string ⟨#[]⟩, .int .i64 0, .slice none 0 0] ( /- t -/ 35))
  have hw1 : w.heap.size < (w.alloc (.cells #[.int .i64 0, .string ⟨#[]⟩, .int .i64 0, .slice none 0 0] ( /- t -/ 35))).heap.size := by simp
  generalize w.alloc (.cells #[.int .i64 0, .string ⟨#[]⟩, .int .i64 0, .slice none 0 0] ( /- t -/ 35)) = W at *
  refine (HIH.out W).mono ?_
  intro e w4 hp4
  have HX4 := hide (hx.below hp4.1)
  obtain ⟨y0, y1, y2, y3⟩ := HX4.out.cells
  have hf := box4_frozen HX4.out
  have hl := HX4.out.lt
  have HB4 := hide (hb1.trans (hp4.1.mono hb1.size))
  have hs4 := hp4.1.size
  clear hx hb1
  cases hrr : r with
  | none =>
    obtain ⟨k, fr, ix, a, m, cp, rfl⟩ := hp4.2.2 hrr
    clear hp4
    go_wp2_with fail
    refine bodyPost_ret (v := .tuple #[.agg #[.int .i64 k, .string fr, .int .i64 ix, .slice a m cp], .int .i64 (-1)]) (by simp [results, Tryd.results178, go_sem, *]) rfl ?_
    exact sp_not hrr (below_set4 HB4.out (Nat.le_refl _) _ _ _ _)
  | some qq =>
    obtain ⟨N, t⟩ := qq
    obtain ⟨q, u, bs2, hq, ht, rfl, how, hge, hnd⟩ := hp4.2.1 N t hrr
    have HOW := hide how
    have HGE := hide hge
    obtain ⟨ua, uc, rfl⟩ := how.val
    clear hp4 how hge
    go_wp2_with fail
    refine bodyPost_ret (v := .tuple #[.agg #[.int .i64 N.k, .string N.fr, .int .i64 N.ix, .slice ua N.kids.len uc], .int .i64 (q : Nat)]) (by simp [results, Tryd.results178, go_sem, *]) rfl ?_
    exact sp_yes hrr hq ht (below_set4 HB4.out (Nat.le_refl _) _ _ _ _) (ow_set4 HOW.out (fun x hx => by have := HGE.out x hx; omega) _ _ _ _) (fun x hx => by have := HGE.out x hx; omega) hnd

theorem sp_every : ∀ d, d ≤ 40 → SpAt d := by
  intro d
  induction d with
  | zero => exact fun _ w T p _ _ => sp_out 0 (by omega) w T p (Or.inl rfl)
  | succ d ih =>
    intro hd w T p hT hpl
    have ih := ih (by omega)
    by_cases hpe : p = T.length
    · exact sp_out (d + 1) hd w T p (Or.inr hpe)
    have hp : p < T.length := by omega
    by_cases h46 : hdC (T.drop p) = 46
    · exact sp_dot d (by omega) w T p hT hp h46
    by_cases h35 : hdC (T.drop p) = 35 ∧ p + 1 < T.length
    · exact sp_hash d (by omega) w T p hT h35.2 h35.1
    by_cases h64 : hdC (T.drop p) = 64
    · exact sp_at d (by omega) ih w T p hT hp h64
    by_cases h123 : p + 2 < T.length ∧ hdC (T.drop (p + 2)) = 123
    · exact sp_act d (by omega) ih w T p hT h123.1 h46 (fun h => h35 ⟨h, by omega⟩) h64 h123.2
    · refine sp_other d (by omega) w T p hT hp h46 (fun h => Nat.le_of_not_lt (fun k => h35 ⟨h, k⟩)) h64 ?_
      by_cases h2 : p + 2 < T.length
      · obtain ⟨-, -, hdr⟩ := head_at h2
        have hne : ¬ hdC (T.drop (p + 2)) = 123 := fun h => h123 ⟨h2, h⟩
        generalize hdC (T.drop (p + 2)) = c at *
        rw [hdr]
        simpa [nxC] using hne
      · rw [List.drop_eq_nil_of_le (by omega)]
        rfl

theorem spB_sz (g : List UInt8 → Option (Nd × List UInt8)) (hg : ∀ s N t, g s = some (N, t) → N.kids.sz + 1 + t.length ≤ s.length) : ∀ (j : Nat) (s : List UInt8) (acc f : F) (t : List UInt8), spB g j s acc = some (f, t) → f.sz + t.length ≤ acc.sz + s.length := by
  have hex : ∀ (s : List UInt8) (acc f : F) (t : List UInt8), exB s acc = some (f, t) → f.sz + t.length ≤ acc.sz + s.length := by
    intro s acc f t h
    unfold exB at h
    split at h
    · injection h with h
      injection h with h1 h2
      subst h1 h2
      simp
    · cases h
  intro j
  induction j with
  | zero => exact fun s acc f t h => hex s acc f t h
  | succ j ih =>
    intro s acc f t h
    rw [spB] at h
    split at h
    · rename_i hgo
      cases hr : g s.tail.tail with
      | none => rw [hr] at h; cases h
      | some q =>
        obtain ⟨N, t1⟩ := q
        rw [hr] at h
        have h1 := ih _ _ _ _ h
        have h2 := hg _ _ _ hr
        rw [F.sz_app] at h1
        simp only [brn, F.sz] at h1
        have h3 : s.tail.tail.length ≤ s.length := by simp only [List.length_tail]; omega
        omega
    · exact hex s acc f t h
theorem sp_sz : ∀ d s N t, sp d s = some (N, t) → N.kids.sz + 1 + t.length ≤ s.length := by
  intro d
  induction d with
  | zero => intro s N t h; cases h
  | succ d ih =>
    intro s N t h
    rw [sp] at h
    split at h
    · rename_i h46
      injection h with h
      injection h with h1 h2
      subst h1 h2
      have := nx_len h46
      show 0 + 1 + s.tail.length ≤ s.length
      omega
    split at h
    · rename_i h35
      injection h with h
      injection h with h1 h2
      subst h1 h2
      simp only [Bool.and_eq_true] at h35
      have e1 := nx_len h35.1
      have e2 : s.tail.tail.length ≤ s.tail.length := by simp only [List.length_tail]; omega
      show 0 + 1 + s.tail.tail.length ≤ s.length
      omega
    split at h
    · rename_i h64
      cases hr : sp d s.tail with
      | none => rw [hr] at h; cases h
      | some q =>
        obtain ⟨M, t'⟩ := q
        rw [hr] at h
        simp only [Option.some.injEq, Prod.mk.injEq] at h
        obtain ⟨rfl, rfl⟩ := h
        have e1 := nx_len h64
        have e2 := ih _ _ _ hr
        simp only [ndRec, F.sz]
        omega
    split at h
    · rename_i h123
      cases hr : spB (sp d) 5 s.tail.tail .nil with
      | none => rw [hr] at h; cases h
      | some q =>
        obtain ⟨f, t'⟩ := q
        rw [hr] at h
        simp only [Option.some.injEq, Prod.mk.injEq] at h
        obtain ⟨rfl, rfl⟩ := h
        have e1 := spB_sz (sp d) ih _ _ _ _ _ hr
        have e2 : s.tail.tail.length + 2 ≤ s.length := by
          cases s with
          | nil => cases h123
          | cons a s => cases s with
            | nil => cases h123
            | cons b s => simp
        simp only [F.sz] at e1 ⊢
        omega
    · cases h
theorem resLM (s : List UInt8) : resL s = resM s := by
  cases hl : resL s with
  | some N => exact ((resM_iff s N).2 ((resL_iff s N).1 hl)).symm
  | none =>
    cases hm : resM s with
    | none => rfl
    | some N =>
      rw [(resL_iff s N).2 ((resM_iff s N).1 hm)] at hl
      cases hl
end Go.Proofs.YtfppglfajbmapaaDoor.Lo.Ne

/- l2Count and LocalValid of the model. -/
namespace Go.Proofs.YtfppglfajbmapaaDoor.Lo
open Go.RowKit

def CntAt (n : Nat) : Prop := ∀ (w : World) (k ix d : Int) (fr : ByteArray) (sv : Value) (kids : F), kids.sz < n → Sl w sv kids → kids.sz ≤ 1048576 → 0 ≤ d → d ≤ 40 →
  Calls Tryd.prog 55 #[.agg #[.int .i64 k, .string fr, .int .i64 ix, sv], .int .i64 d] w fun e w' => e = .returned (.int .i64 (cntN kids d : Nat)) ∧ Below w.heap.size w w'

theorem box4_now (w : World) (v0 v1 v2 v3 : Value) (t : TypeId) : (w.alloc (.cells #[v0, v1, v2, v3] t)).cell? ⟨w.heap.size, 3, none⟩ = some v3 ∧ w.heap.size < (w.alloc (.cells #[v0, v1, v2, v3] t)).heap.size :=
  ⟨(Box4.now w v0 v1 v2 v3 t).cells.2.2.2, (Box4.now w v0 v1 v2 v3 t).lt⟩

set_option maxHeartbeats 800000 in
theorem cnt_all : ∀ n, CntAt n := by
  intro n
  induction n with
  | zero => intro w k ix d fr sv kids hn; omega
  | succ n ih =>
    intro w k ix d fr sv kids hn hs hbig hd0 hd
    obtain ⟨a, cap, rfl, hlen, hat⟩ := hs.at
    have hb0 := alloc_below w (.cells #[.int .i64 k, .string fr, .int .i64 ix, .slice a kids.len cap] ( /- t -/ 35))
    obtain ⟨hc4, hsz⟩ := box4_now w (.int .i64 k) (.string fr) (.int .i64 ix) (.slice a kids.len cap) ( /- t -/ 35)
    have HA := hide (hat.still (Still.of_below hb0))
    unfold maxLen at hlen
    have HN := hide hn
    clear hs hat hn
    by_cases hd1 : 0 < d
    · go_enter Tryd.func55, Tryd.ntmps55
      go_wp2_with fail
      generalize (w.alloc (.cells #[.int .i64 k, .string fr, .int .i64 ix, .slice a kids.len cap] ( /- t -/ 35))) = W at *
      go_loopw [5, 6] (fun nv iv wr => ∃ (g : F) (k m : Nat), k + g.len = kids.len ∧ nv = .int .i64 m ∧ iv = .int .i64 k ∧ g.sz ≤ kids.sz ∧ At W a k g ∧ m + cntF g (d - 1) = 1 + cntF kids (d - 1) ∧ Below W.heap.size W wr) (fun _ iv _ => kids.len - (intOf iv).toNat)
      case atStart => exact ⟨kids, 0, 1, by omega, rfl, rfl, Nat.le_refl _, HA.out, rfl, Below.refl _ _⟩
      case round =>
        obtain ⟨g, k, m, hk, rfl, rfl, h5, hg, hv, hbw⟩ := hrel
        have e4 := (Still.of_below hbw) _ _ hc4
        have HVV := hide hv
        have HB := hide (hb0.trans (hbw.mono (Nat.le_of_lt hsz)))
        clear hv
        cases g with
        | nil =>
          have H5 : Hid (k = kids.len) := by unfold Hid; simpa [F.len] using hk
          have hge : kids.len ≤ k := Nat.le_of_eq H5.out.symm
          clear hk
          go_wp2_with fail
          go_ret
          refine ⟨ret_int ?_, HB.out⟩
          have := HVV.out
          unfold cntN
          rw [if_pos hd1]
          simp only [cntF] at this
          omega
        | cons lab kd fr' ix' kids' rest =>
          have HK : Hid (k + 1 + rest.len = kids.len) := by unfold Hid; simp only [F.len] at hk; omega
          have hlt : k < kids.len := by have := HK.out; omega
          have HZ : Hid (kids'.sz < n ∧ rest.sz ≤ kids.sz ∧ kids'.sz ≤ 1048576) := by have := HN.out; unfold Hid; simp only [F.sz] at h5; omega
          have hm : m ≤ 1048577 := by have := HVV.out; have := cntF_le kids (d - 1); omega
          obtain ⟨b', o, rfl, _, _, _, _, q0, q1, q2, q3, ⟨sv', q4, hsv⟩, _⟩ := (hg.still (Still.of_below hbw)).head
          have HS := hide hsv
          have HG := hide hg
          clear hk h5 hg hsv
          go_wp2_with fail
          refine (ih wr kd ix' (d - 1) fr' sv' kids' HZ.out.1 HS.out HZ.out.2.2 (by omega) (by omega)).mono ?_
          rintro e w3 ⟨rfl, hb5⟩
          have hb7 := hbw.trans (hb5.mono hbw.size)
          clear hb5
          generalize hcn : cntN kids' (d - 1) = c at *
          have HC := hide hcn
          have hc : c ≤ 1048577 := by
            have h1 := HZ.out.2.2
            have h2 := cntF_le kids' (d - 1 - 1)
            rw [← hcn]
            unfold cntN
            split <;> omega
          clear hcn
          go_wp2_with fail
          refine ⟨⟨rest, k + 1, m + c, by have := HK.out; omega, by go_num, by go_num, HZ.out.2.1, HG.out.tail, ?_, hb7⟩, by simp [intOf]; omega⟩
          have h1 := HVV.out
          have h2 := HC.out
          simp only [cntF] at h1
          unfold cntN at h2
          omega
    · obtain rfl : d = 0 := by omega
      go_enter Tryd.func55, Tryd.ntmps55
      go_wp2_with fail
      generalize (w.alloc (.cells #[.int .i64 k, .string fr, .int .i64 ix, .slice a kids.len cap] ( /- t -/ 35))) = W at *
      go_loopw [5, 6] (fun nv iv wr => nv = .int .i64 1 ∧ iv = .int .i64 0 ∧ wr = W) (fun _ iv _ => kids.len - (intOf iv).toNat)
      case atStart => exact ⟨rfl, rfl, rfl⟩
      case round =>
        obtain ⟨rfl, rfl, rfl⟩ := hrel
        go_wp2_with fail
        all_goals go_ret
        all_goals exact ⟨rfl, hb0⟩

/-- l2Count of the model. -/
theorem cnt_calls (w : World) (k ix d : Int) (fr : ByteArray) (sv : Value) (kids : F) (hs : Sl w sv kids) (hbig : kids.sz ≤ 1048576) (hd0 : 0 ≤ d) (hd : d ≤ 40) :
    Calls Tryd.prog 55 #[.agg #[.int .i64 k, .string fr, .int .i64 ix, sv], .int .i64 d] w fun e w' => e = .returned (.int .i64 (cntN kids d : Nat)) ∧ Below w.heap.size w w' :=
  cnt_all (kids.sz + 1) w k ix d fr sv kids (Nat.lt_succ_self _) hs hbig hd0 hd

set_option maxHeartbeats 400000 in
/-- LocalValid of the model. -/
theorem specValid (w : World) (k ix : Int) (fr : ByteArray) (sv : Value) (kids : F) (hs : Sl w sv kids) (hbig : kids.sz ≤ 1048576) :
    Calls Tryd.prog 20 #[.agg #[.int .i64 k, .string fr, .int .i64 ix, sv]] w fun e w' => e = .returned (.bool (okN k fr ix kids)) ∧ Below w.heap.size w w' := by
  have HS := hide hs
  clear hs
  go_enter Tryd.func20, Tryd.ntmps20
  go_wp2_with fail
  refine (vld_calls _ k ix 0 0 40 fr sv kids (HS.out.still (Still.of_below (alloc_below _ _))) (by omega) (by omega) (by omega) (by omega) (by omega)).mono ?_
  rintro e w1 ⟨rfl, hb⟩
  have BX := (Box4.now w (.int .i64 k) (.string fr) (.int .i64 ix) sv ( /- t -/ 35)).below hb
  obtain ⟨c0, c1, c2, c3⟩ := BX.cells
  have hlt := BX.lt
  have hb2 := alloc_then hb
  clear BX
  clear hb
  cases hv : vldN k fr ix kids 0 0 40 with
  | false =>
    go_wp2_with fail
    go_ret
    exact ⟨ret_bool (by simp [okN, hv]), hb2⟩
  | true =>
    have HV := hide hv
    clear hv
    go_wp2_with fail
    refine (cnt_calls _ k ix 40 fr sv kids (HS.out.still (Still.of_below hb2)) hbig (by omega) (by omega)).mono ?_
    rintro e w2 ⟨rfl, hb3⟩
    have hb4 := hb2.trans (hb3.mono hb2.size)
    rw [cntN_of_vld HV.out]
    clear hb3
    go_wp2_with fail
    go_ret
    refine ⟨ret_bool ?_, hb4⟩
    unfold okN
    rw [HV.out, Bool.true_and]
    show decide _ = _
    exact decide_eq_decide.2 (by omega)

end Go.Proofs.YtfppglfajbmapaaDoor.Lo

/- l2Format of the model. -/
namespace Go.Proofs.YtfppglfajbmapaaDoor.Lo
open Go.RowKit

def FmtAt (n : Nat) : Prop := ∀ (w : World) (k ix b u d : Int) (fr : ByteArray) (sv : Value) (kids : F), kids.sz < n → kids.sz ≤ 400 → Sl w sv kids → 0 ≤ b → 0 ≤ u → b + d ≤ 40 → vldN k fr ix kids b u d = true →
  Calls Tryd.prog 65 #[.agg #[.int .i64 k, .string fr, .int .i64 ix, sv]] w fun e w' => e = .returned (.string (txN k fr ix kids)) ∧ Below w.heap.size w w'

set_option maxHeartbeats 400000 in
set_option maxRecDepth 100000 in
theorem fmt_end (w : World) (ix : Int) (fr : ByteArray) (sv : Value) (kids : F) (hs : Sl w sv kids) :
    Calls Tryd.prog 65 #[.agg #[.int .i64 1, .string fr, .int .i64 ix, sv]] w fun e w' => e = .returned (.string (txN 1 fr ix kids)) ∧ Below w.heap.size w w' := by
  obtain ⟨a, cap, rfl, -, -⟩ := hs.at
  clear hs
  go_enter Tryd.func65, Tryd.ntmps65
  go_wp2_with fail
  go_ret
  exact ⟨rfl, alloc_below _ _⟩

set_option maxHeartbeats 400000 in
set_option maxRecDepth 100000 in
theorem fmt_var (w : World) (ix : Int) (fr : ByteArray) (sv : Value) (kids : F) (hs : Sl w sv kids) (h0 : 0 ≤ ix) (h1 : ix < 40) :
    Calls Tryd.prog 65 #[.agg #[.int .i64 5, .string fr, .int .i64 ix, sv]] w fun e w' => e = .returned (.string (txN 5 fr ix kids)) ∧ Below w.heap.size w w' := by
  obtain ⟨a, cap, rfl, -, -⟩ := hs.at
  obtain ⟨i, rfl⟩ := Int.eq_ofNat_of_zero_le h0
  have h2 : (bdec i).size ≤ 2 := by
    have := decDigits_small (i := i) (by omega)
    simpa [bdec, ByteArray.size] using this
  clear hs
  go_enter Tryd.func65, Tryd.ntmps65
  go_wp2_with fail
  refine (dec_calls i (by omega) _).mono ?_
  rintro e w1 ⟨rfl, hb⟩
  change (bdec i).size ≤ 2 at h2
  have e1 : (⟨(Lib.decDigits i).toArray⟩ : ByteArray) = bdec i := rfl
  rw [e1]
  go_wp2_with fail
  go_ret
  exact ⟨rfl, (alloc_below _ _).trans (hb.mono (by simp))⟩

set_option maxHeartbeats 800000 in
set_option maxRecDepth 100000 in
theorem fmt_rec (n : Nat) (ih : FmtAt n) (w : World) (ix b u d : Int) (fr : ByteArray) (sv : Value) (kids : F) (hn : kids.sz < n + 1) (hbig : kids.sz ≤ 400) (hs : Sl w sv kids) (hb : 0 ≤ b) (hu : 0 ≤ u) (hbd : b + d ≤ 40)
    (hsh : shapeB 4 fr ix kids = true) (hv : vldF kids (b + 1) (u + 1) (d - 1) = true) :
    Calls Tryd.prog 65 #[.agg #[.int .i64 4, .string fr, .int .i64 ix, sv]] w fun e w' => e = .returned (.string (txN 4 fr ix kids)) ∧ Below w.heap.size w w' := by
  obtain ⟨e1, rfl, lab, k', fr', ix', kids', rfl, e3⟩ := shape_rec hsh
  have hvn : vldN k' fr' ix' kids' (b + 1) (u + 1) (d - 1) = true := by
    simp only [vldF, Bool.and_true] at hv
    exact hv
  have hsz := txN_size (by omega) (by omega) (by omega) hvn
  have hsz2 : (txN k' fr' ix' kids').size ≤ 3000 := by simp only [F.sz] at hbig; omega
  obtain ⟨a, cap, rfl, -, hat⟩ := hs.at
  obtain ⟨b', o', rfl, -, -, -, -, d0, d1, d2, d3, ⟨sv', d4, hsv⟩, -⟩ := hat.head
  have hbw := World.block_lt_of_cell? _ _ d0
  simp only [Nat.zero_mul, Nat.add_zero] at d0 d1 d2 d3 d4
  have HSV := hide hsv
  have HV := hide hvn
  have HN := hide hn
  have HB := hide hbig
  clear hs hsh hat hn hbig e1 e3 hsv hv hvn hsz
  change Calls Tryd.prog 65 #[.agg #[.int .i64 4, .string fr, .int .i64 0, .slice (some ⟨b', o', none⟩) 1 cap]] w _
  go_enter Tryd.func65, Tryd.ntmps65
  go_wp2_with fail
  refine (ih _ k' ix' (b + 1) (u + 1) (d - 1) fr' _ kids' (by have := HN.out; simp only [F.sz] at this; omega) (by have := HB.out; simp only [F.sz] at this; omega) (HSV.out.still (Still.of_below (alloc_below _ _))) (by omega) (by omega) (by omega) HV.out).mono ?_
  rintro e w1 ⟨rfl, hb⟩
  go_wp2_with fail
  go_ret
  exact ⟨rfl, (alloc_below _ _).trans (hb.mono (by simp))⟩
end Go.Proofs.YtfppglfajbmapaaDoor.Lo

/- l2Format of the model: messages; FormatLocal of the model. -/
namespace Go.Proofs.YtfppglfajbmapaaDoor.Lo
open Go.RowKit

set_option maxHeartbeats 800000 in
set_option maxRecDepth 100000 in
theorem fmt_act2 (n : Nat) (ih : FmtAt n) (w : World) (ix b u d : Int) (fr : ByteArray) (sv : Value) (kids : F) (hn : kids.sz < n + 1) (hbig : kids.sz ≤ 400) (hs : Sl w sv kids) (hb : 0 ≤ b) (hu : 0 ≤ u) (hbd : b + d ≤ 40)
    (hall : vldN 2 fr ix kids b u d = true) (hsh : shapeB 2 fr ix kids = true) (hv : vldF kids b 0 (d - 1) = true) :
    Calls Tryd.prog 65 #[.agg #[.int .i64 2, .string fr, .int .i64 ix, sv]] w fun e w' => e = .returned (.string (txN 2 fr ix kids)) ∧ Below w.heap.size w w' := by
  have htot := txN_size hb hu hbd hall
  have htx : fr ++ mark 2 ++ txF kids .first ++ bclose = txN 2 fr ix kids := rfl
  obtain ⟨e1, rfl, e5⟩ := shape_act (Or.inl rfl) hsh
  have hfr : fr.size = 1 := role_size e1
  obtain ⟨a, cap, rfl, hlen, hat⟩ := hs.at
  unfold maxLen at hlen
  have hb0 := alloc_below w (.cells #[.int .i64 2, .string fr, .int .i64 0, .slice a kids.len cap] ( /- t -/ 35))
  obtain ⟨hc4, hsz⟩ := box4_now w (.int .i64 2) (.string fr) (.int .i64 0) (.slice a kids.len cap) ( /- t -/ 35)
  have HA := hide (hat.still (Still.of_below hb0))
  have HN := hide hn
  have HT := hide htot
  have HX := hide htx
  have HV := hide hv
  have HG := hide hbig
  clear hs hsh hat hn htot htx hall hv e1 e5 hbig
  go_enter Tryd.func65, Tryd.ntmps65
  go_wp2_with fail
  generalize (w.alloc (.cells #[.int .i64 2, .string fr, .int .i64 0, .slice a kids.len cap] ( /- t -/ 35))) = W at *
  go_loopw [3, 4, 5] (fun ov iv _ wr => ∃ (g : F) (s : ByteArray) (k : Nat), k + g.len = kids.len ∧ ov = .string s ∧ iv = .int .i64 k ∧ g.sz ≤ kids.sz ∧ At W a k g ∧ vldF g b 0 (d - 1) = true ∧ s ++ txF g (md k) ++ bclose = txN 2 fr 0 kids ∧ Below W.heap.size W wr) (fun _ iv _ _ => kids.len - (intOf iv).toNat)
  case atStart => exact ⟨kids, fr ++ mark 2, 0, by omega, rfl, rfl, Nat.le_refl _, HA.out, HV.out, HX.out, Below.refl _ _⟩
  case round =>
    obtain ⟨g, s, k, hk, rfl, rfl, h5, hg, hv, htx, hbw⟩ := hrel
    have hssz : s.size ≤ 3000 := by
      have h1 := HT.out
      have h2 := HG.out
      rw [← htx, ByteArray.size_append, ByteArray.size_append] at h1
      omega
    have e4 := (Still.of_below hbw) _ _ hc4
    have HB := hide (hb0.trans (hbw.mono (Nat.le_of_lt hsz)))
    have HY := hide htx
    have HW := hide hv
    cases g with
    | nil =>
      have H5 : Hid (k = kids.len) := by unfold Hid; simpa [F.len] using hk
      have hge : kids.len ≤ k := Nat.le_of_eq H5.out.symm
      clear hk htx hv
      go_wp2_with fail
      go_ret
      refine ⟨?_, HB.out⟩
      rw [← HY.out]
      exact congrArg (fun x => Ending.returned (Value.string (x ++ bclose))) (bytes_nil s).symm
    | cons lab kd fr' ix' kids' rest =>
      rw [txF_md] at htx
      have hlt : k < kids.len := by simp only [F.len] at hk; omega
      obtain ⟨b', o, rfl, _, _, _, _, q0, q1, q2, q3, ⟨sv', q4, hsv⟩, _⟩ := (hg.still (Still.of_below hbw)).head
      have HK := hide hk
      have HX2 := hide htx
      have HS := hide hsv
      have HG2 := hide hg
      have H5 := hide h5
      have hz : s.size + (1 + lab.size + (txN kd fr' ix' kids').size) ≤ 3000 := by
        have h1 := HT.out
        have h2 := HG.out
        rw [← htx] at h1
        simp only [ByteArray.size_append, sepB_size] at h1
        omega
      simp only [vldF, Bool.and_eq_true] at hv
      have HW2 := hide hv
      have hbr := World.block_lt_of_cell? _ _ q0
      have hsd : Still wr wr.drew := fun _ _ h => h
      have HSd := hide (HS.out.still hsd)
      have hz1 : ∀ c : UInt8, (s ++ ⟨#[c]⟩).size = s.size + 1 := fun c => by rw [ByteArray.size_append]; rfl
      have hz2 : ∀ c : UInt8, (s ++ ⟨#[c]⟩ ++ lab).size = s.size + 1 + lab.size := fun c => by rw [ByteArray.size_append, hz1]
      have HZ1 := hide hz1
      have n1 : ∀ (c : UInt8) (W : World), (Op.stringOp .add s ⟨#[c]⟩).run Tryd.prog W = .ok (.string (s ++ ⟨#[c]⟩)) W := fun c W => run_string_add_sum W _ _ (show s.size + 1 ≤ _ by omega)
      have n2 : ∀ (c : UInt8) (W : World), (Op.stringOp .add (s ++ ⟨#[c]⟩) lab).run Tryd.prog W = .ok (.string (s ++ ⟨#[c]⟩ ++ lab)) W := fun c W => run_string_add_sum W _ _ (by rw [hz1]; omega)
      have n3 : ∀ (c : UInt8) (W : World), (Op.stringOp .add (s ++ ⟨#[c]⟩ ++ lab) (txN kd fr' ix' kids')).run Tryd.prog W = .ok (.string (s ++ ⟨#[c]⟩ ++ lab ++ txN kd fr' ix' kids')) W := fun c W => run_string_add_sum W _ _ (by rw [hz2]; omega)
      clear hk h5 hg hsv htx hv HW HY hz1 hz2 hz
      cases hkb : ((k : Int) == 0)
      all_goals go_wp2_with fail
      all_goals
        (go_region_held3 (fun w' => w'.cell? ⟨w.heap.size, 3, none⟩ = some (.slice (some ⟨b', o, none⟩) kids.len cap) ∧ w'.cell? ⟨b', o + k * 5, none⟩ = some (.string lab) ∧ w'.cell? ⟨b', o + k * 5 + 1, none⟩ = some (.int .i64 kd) ∧ w'.cell? ⟨b', o + k * 5 + 2, none⟩ = some (.string fr') ∧ w'.cell? ⟨b', o + k * 5 + 3, none⟩ = some (.int .i64 ix') ∧ w'.cell? ⟨b', o + k * 5 + 4, none⟩ = some sv')
          (first | exact ⟨e4, q0, q1, q2, q3, q4⟩ | exact ⟨g4, l0, l1, l2, l3, l4⟩)
          ((first
            | (go_at_call 65; refine (ih _ kd ix' b 0 (d - 1) fr' sv' kids' ?_ ?_ ?_ ?_ ?_ ?_ ?_).mono ?_; (have h1 := H5.out; have h2 := HN.out; simp only [F.sz] at h1; omega); (have h1 := H5.out; have h2 := HG.out; simp only [F.sz] at h1; omega); (exact HSd.out); (exact hb); (omega); (omega); (exact HW2.out.1);
               rintro e w6 ⟨rfl, hb12⟩; have hst := hsd.trans (Still.of_below hb12); have g4 := hst _ _ e4; have l0 := hst _ _ q0; have l1 := hst _ _ q1; have l2 := hst _ _ q2; have l3 := hst _ _ q3; have l4 := hst _ _ q4))))
        have hb14 := hbw.drew.trans (hb12.mono hbw.drew.size)
        clear hb12 hst g4 l0 l1 l2 l3 l4
        go_wp2_with fail
        refine ⟨⟨rest, s ++ sepB k ++ lab ++ txN kd fr' ix' kids', k + 1, ?_, ?_, by go_num, ?_, HG2.out.tail, HW2.out.2, ?_, ?_⟩, by simp [intOf]; omega⟩
        · have := HK.out
          simp only [F.len] at this
          omega
        · by_cases hk0 : k = 0
          · first
            | (exfalso; rw [hk0] at hkb; simp at hkb; done)
            | (unfold sepB; rw [if_pos hk0]; rfl)
          · first
            | (exfalso; have h9 := beq_iff_eq.1 hkb; omega)
            | (unfold sepB; rw [if_neg hk0]; rfl)
        · have := H5.out
          simp only [F.sz] at this
          omega
        · rw [← HX2.out]
          simp only [bytes_assoc]
        · exact hb14

set_option maxHeartbeats 800000 in
set_option maxRecDepth 100000 in
theorem fmt_act3 (n : Nat) (ih : FmtAt n) (w : World) (ix b u d : Int) (fr : ByteArray) (sv : Value) (kids : F) (hn : kids.sz < n + 1) (hbig : kids.sz ≤ 400) (hs : Sl w sv kids) (hb : 0 ≤ b) (hu : 0 ≤ u) (hbd : b + d ≤ 40)
    (hall : vldN 3 fr ix kids b u d = true) (hsh : shapeB 3 fr ix kids = true) (hv : vldF kids b 0 (d - 1) = true) :
    Calls Tryd.prog 65 #[.agg #[.int .i64 3, .string fr, .int .i64 ix, sv]] w fun e w' => e = .returned (.string (txN 3 fr ix kids)) ∧ Below w.heap.size w w' := by
  have htot := txN_size hb hu hbd hall
  have htx : fr ++ mark 3 ++ txF kids .first ++ bclose = txN 3 fr ix kids := rfl
  obtain ⟨e1, rfl, e5⟩ := shape_act (Or.inr rfl) hsh
  have hfr : fr.size = 1 := role_size e1
  obtain ⟨a, cap, rfl, hlen, hat⟩ := hs.at
  unfold maxLen at hlen
  have hb0 := alloc_below w (.cells #[.int .i64 3, .string fr, .int .i64 0, .slice a kids.len cap] ( /- t -/ 35))
  obtain ⟨hc4, hsz⟩ := box4_now w (.int .i64 3) (.string fr) (.int .i64 0) (.slice a kids.len cap) ( /- t -/ 35)
  have HA := hide (hat.still (Still.of_below hb0))
  have HN := hide hn
  have HT := hide htot
  have HX := hide htx
  have HV := hide hv
  have HG := hide hbig
  clear hs hsh hat hn htot htx hall hv e1 e5 hbig
  go_enter Tryd.func65, Tryd.ntmps65
  go_wp2_with fail
  generalize (w.alloc (.cells #[.int .i64 3, .string fr, .int .i64 0, .slice a kids.len cap] ( /- t -/ 35))) = W at *
  go_loopw [3, 4, 5] (fun ov iv _ wr => ∃ (g : F) (s : ByteArray) (k : Nat), k + g.len = kids.len ∧ ov = .string s ∧ iv = .int .i64 k ∧ g.sz ≤ kids.sz ∧ At W a k g ∧ vldF g b 0 (d - 1) = true ∧ s ++ txF g (md k) ++ bclose = txN 3 fr 0 kids ∧ Below W.heap.size W wr) (fun _ iv _ _ => kids.len - (intOf iv).toNat)
  case atStart => exact ⟨kids, fr ++ mark 3, 0, by omega, rfl, rfl, Nat.le_refl _, HA.out, HV.out, HX.out, Below.refl _ _⟩
  case round =>
    obtain ⟨g, s, k, hk, rfl, rfl, h5, hg, hv, htx, hbw⟩ := hrel
    have hssz : s.size ≤ 3000 := by
      have h1 := HT.out
      have h2 := HG.out
      rw [← htx, ByteArray.size_append, ByteArray.size_append] at h1
      omega
    have e4 := (Still.of_below hbw) _ _ hc4
    have HB := hide (hb0.trans (hbw.mono (Nat.le_of_lt hsz)))
    have HY := hide htx
    have HW := hide hv
    cases g with
    | nil =>
      have H5 : Hid (k = kids.len) := by unfold Hid; simpa [F.len] using hk
      have hge : kids.len ≤ k := Nat.le_of_eq H5.out.symm
      clear hk htx hv
      go_wp2_with fail
      go_ret
      refine ⟨?_, HB.out⟩
      rw [← HY.out]
      exact congrArg (fun x => Ending.returned (Value.string (x ++ bclose))) (bytes_nil s).symm
    | cons lab kd fr' ix' kids' rest =>
      rw [txF_md] at htx
      have hlt : k < kids.len := by simp only [F.len] at hk; omega
      obtain ⟨b', o, rfl, _, _, _, _, q0, q1, q2, q3, ⟨sv', q4, hsv⟩, _⟩ := (hg.still (Still.of_below hbw)).head
      have HK := hide hk
      have HX2 := hide htx
      have HS := hide hsv
      have HG2 := hide hg
      have H5 := hide h5
      have hz : s.size + (1 + lab.size + (txN kd fr' ix' kids').size) ≤ 3000 := by
        have h1 := HT.out
        have h2 := HG.out
        rw [← htx] at h1
        simp only [ByteArray.size_append, sepB_size] at h1
        omega
      simp only [vldF, Bool.and_eq_true] at hv
      have HW2 := hide hv
      have hbr := World.block_lt_of_cell? _ _ q0
      have hsd : Still wr wr.drew := fun _ _ h => h
      have HSd := hide (HS.out.still hsd)
      have hz1 : ∀ c : UInt8, (s ++ ⟨#[c]⟩).size = s.size + 1 := fun c => by rw [ByteArray.size_append]; rfl
      have hz2 : ∀ c : UInt8, (s ++ ⟨#[c]⟩ ++ lab).size = s.size + 1 + lab.size := fun c => by rw [ByteArray.size_append, hz1]
      have HZ1 := hide hz1
      have n1 : ∀ (c : UInt8) (W : World), (Op.stringOp .add s ⟨#[c]⟩).run Tryd.prog W = .ok (.string (s ++ ⟨#[c]⟩)) W := fun c W => run_string_add_sum W _ _ (show s.size + 1 ≤ _ by omega)
      have n2 : ∀ (c : UInt8) (W : World), (Op.stringOp .add (s ++ ⟨#[c]⟩) lab).run Tryd.prog W = .ok (.string (s ++ ⟨#[c]⟩ ++ lab)) W := fun c W => run_string_add_sum W _ _ (by rw [hz1]; omega)
      have n3 : ∀ (c : UInt8) (W : World), (Op.stringOp .add (s ++ ⟨#[c]⟩ ++ lab) (txN kd fr' ix' kids')).run Tryd.prog W = .ok (.string (s ++ ⟨#[c]⟩ ++ lab ++ txN kd fr' ix' kids')) W := fun c W => run_string_add_sum W _ _ (by rw [hz2]; omega)
      clear hk h5 hg hsv htx hv HW HY hz1 hz2 hz
      cases hkb : ((k : Int) == 0)
      all_goals go_wp2_with fail
      all_goals
        (go_region_held3 (fun w' => w'.cell? ⟨w.heap.size, 3, none⟩ = some (.slice (some ⟨b', o, none⟩) kids.len cap) ∧ w'.cell? ⟨b', o + k * 5, none⟩ = some (.string lab) ∧ w'.cell? ⟨b', o + k * 5 + 1, none⟩ = some (.int .i64 kd) ∧ w'.cell? ⟨b', o + k * 5 + 2, none⟩ = some (.string fr') ∧ w'.cell? ⟨b', o + k * 5 + 3, none⟩ = some (.int .i64 ix') ∧ w'.cell? ⟨b', o + k * 5 + 4, none⟩ = some sv')
          (first | exact ⟨e4, q0, q1, q2, q3, q4⟩ | exact ⟨g4, l0, l1, l2, l3, l4⟩)
          ((first
            | (go_at_call 65; refine (ih _ kd ix' b 0 (d - 1) fr' sv' kids' ?_ ?_ ?_ ?_ ?_ ?_ ?_).mono ?_; (have h1 := H5.out; have h2 := HN.out; simp only [F.sz] at h1; omega); (have h1 := H5.out; have h2 := HG.out; simp only [F.sz] at h1; omega); (exact HSd.out); (exact hb); (omega); (omega); (exact HW2.out.1);
               rintro e w6 ⟨rfl, hb12⟩; have hst := hsd.trans (Still.of_below hb12); have g4 := hst _ _ e4; have l0 := hst _ _ q0; have l1 := hst _ _ q1; have l2 := hst _ _ q2; have l3 := hst _ _ q3; have l4 := hst _ _ q4))))
        have hb14 := hbw.drew.trans (hb12.mono hbw.drew.size)
        clear hb12 hst g4 l0 l1 l2 l3 l4
        go_wp2_with fail
        refine ⟨⟨rest, s ++ sepB k ++ lab ++ txN kd fr' ix' kids', k + 1, ?_, ?_, by go_num, ?_, HG2.out.tail, HW2.out.2, ?_, ?_⟩, by simp [intOf]; omega⟩
        · have := HK.out
          simp only [F.len] at this
          omega
        · by_cases hk0 : k = 0
          · first
            | (exfalso; rw [hk0] at hkb; simp at hkb; done)
            | (unfold sepB; rw [if_pos hk0]; rfl)
          · first
            | (exfalso; have h9 := beq_iff_eq.1 hkb; omega)
            | (unfold sepB; rw [if_neg hk0]; rfl)
        · have := H5.out
          simp only [F.sz] at this
          omega
        · rw [← HX2.out]
          simp only [bytes_assoc]
        · exact hb14

theorem fmt_all : ∀ n, FmtAt n := by
  intro n
  induction n with
  | zero => intro w k ix b u d fr sv kids hn; omega
  | succ n ih =>
    intro w k ix b u d fr sv kids hn hbig hs hb hu hbd hv
    have hv2 := hv
    unfold vldN at hv2
    obtain ⟨hd, hsh, hk⟩ := node_kinds hu hv2
    rcases hk with rfl | ⟨rfl, h0, h1, -⟩ | ⟨rfl, h3⟩ | ⟨hkk, h2⟩
    · exact fmt_end w ix fr sv kids hs
    · exact fmt_var w ix fr sv kids hs h0 (by omega)
    · exact fmt_rec n ih w ix b u d fr sv kids hn hbig hs hb hu hbd hsh h3
    · rcases hkk with rfl | rfl
      · exact fmt_act2 n ih w ix b u d fr sv kids hn hbig hs hb hu hbd hv hsh h2
      · exact fmt_act3 n ih w ix b u d fr sv kids hn hbig hs hb hu hbd hv hsh h2

set_option maxHeartbeats 400000 in
set_option maxRecDepth 100000 in
/-- FormatLocal of the model. -/
theorem specFormat (w : World) (k ix : Int) (fr : ByteArray) (sv : Value) (kids : F) (hs : Sl w sv kids) (hbig : kids.sz ≤ 1048576) :
    Calls Tryd.prog 25 #[.agg #[.int .i64 k, .string fr, .int .i64 ix, sv]] w fun e w' => e = .returned (.string (textN k fr ix kids)) ∧ Below w.heap.size w w' := by
  have HS := hide hs
  clear hs
  go_enter Tryd.func25, Tryd.ntmps25
  go_wp2_with fail
  refine (specValid _ k ix fr sv kids (HS.out.still (Still.of_below (alloc_below _ _))) hbig).mono ?_
  rintro e w1 ⟨rfl, hb⟩
  have BX := (Box4.now w (.int .i64 k) (.string fr) (.int .i64 ix) sv ( /- t -/ 35)).below hb
  obtain ⟨c0, c1, c2, c3⟩ := BX.cells
  have hlt := BX.lt
  have hb2 := alloc_then hb
  clear BX
  clear hb
  cases hv : okN k fr ix kids with
  | false =>
    go_wp2_with fail
    go_ret
    refine ⟨?_, hb2⟩
    unfold textN
    rw [hv]
    rfl
  | true =>
    have HV := hide hv
    have h2 := hv
    unfold okN at h2
    simp only [Bool.and_eq_true, decide_eq_true_eq] at h2
    have H2 := hide h2
    clear hv h2
    go_wp2_with fail
    refine (fmt_all (kids.sz + 1) _ k ix 0 0 40 fr sv kids (Nat.lt_succ_self _) (by have := H2.out.2; omega) (HS.out.still (Still.of_below hb2)) (by omega) (by omega) (by omega) H2.out.1).mono ?_
    rintro e w2 ⟨rfl, hb3⟩
    have hb4 := hb2.trans (hb3.mono hb2.size)
    clear hb3
    go_wp2_with fail
    go_ret
    refine ⟨?_, hb4⟩
    unfold textN
    rw [HV.out]
    rfl
end Go.Proofs.YtfppglfajbmapaaDoor.Lo

/- ParseLocal of the model. -/
namespace Go.Proofs.YtfppglfajbmapaaDoor.Lo.Ne
open Go.RowKit

theorem bl_bs (s : List UInt8) : bl (bs s) = s := by simp [bl, bs]
theorem text_iff (N : Nd) {s : List UInt8} (hs0 : s ≠ []) : textN N.k N.fr N.ix N.kids = bs s ↔ (okN N.k N.fr N.ix N.kids = true ∧ bl (txN N.k N.fr N.ix N.kids) = s) := by
  unfold textN
  cases hk : okN N.k N.fr N.ix N.kids with
  | true =>
    rw [if_pos rfl]
    refine ⟨fun h => ⟨rfl, by rw [h, bl_bs]⟩, fun h => bl_inj (by rw [h.2, bl_bs])⟩
  | false =>
    rw [if_neg (by decide)]
    refine ⟨fun h => absurd (congrArg ByteArray.size h) ?_, fun h => by cases h.1⟩
    rw [bs_size]
    intro h0
    exact hs0 (List.length_eq_zero_iff.1 h0.symm)

set_option maxHeartbeats 1600000 in
set_option maxRecDepth 100000 in
/-- ParseLocal of the model. -/
theorem specParseL (w : World) (s : List UInt8) (hs : s.length ≤ 1048576) :
    Calls Tryd.prog 150 #[.string (bs s)] w (PlPost s w) := by
  have hsz : (bs s).size = s.length := bs_size s
  have HP := hide (fun (W : World) => sp_every 40 (by omega) W s 0 hs (Nat.zero_le _))
  go_enter Tryd.func150, Tryd.ntmps150
  go_wp2_with fail
  have hx := Box4.now w (.int .i64 0) (.string ⟨#[]⟩) (.int .i64 0) (.slice none 0 0) ( /- t -/ 35)
  have hb1 := alloc_below w (.cells #[.int .i64 0, .string ⟨#[]⟩, .int .i64 0, .slice none 0 0] ( /- t -/ 35))
  have hw1 : w.heap.size < (w.alloc (.cells #[.int .i64 0, .string ⟨#[]⟩, .int .i64 0, .slice none 0 0] ( /- t -/ 35))).heap.size := by simp
  generalize w.alloc (.cells #[.int .i64 0, .string ⟨#[]⟩, .int .i64 0, .slice none 0 0] ( /- t -/ 35)) = W at *
  refine (HP.out W).mono ?_
  intro e w4 hp4
  rw [List.drop_zero] at hp4
  have HX4 := hide (hx.below hp4.1)
  obtain ⟨y0, y1, y2, y3⟩ := HX4.out.cells
  have hf := box4_frozen HX4.out
  have hl := HX4.out.lt
  have HB4 := hide (hb1.trans (hp4.1.mono hb1.size))
  have hs4 := hp4.1.size
  clear hx hb1
  cases hr : sp 40 s with
  | none =>
    obtain ⟨k, fr, ix, a, m, cp, rfl⟩ := hp4.2.2 hr
    have HN := hide (show resL s = none by rw [resLM, resM, hr])
    have hne : ¬ (-1 : Int) = (s.length : Int) := by omega
    clear hp4 hr
    go_wp2_with fail
    refine bodyPost_ret (v := .tuple #[.agg #[.int .i64 0, .string ⟨#[]⟩, .int .i64 0, .slice none 0 0], .bool false]) (by simp [results, Tryd.results150, go_sem, *]) rfl ?_
    exact pl_no HN.out ((below_set4 HB4.out (Nat.le_refl _) _ _ _ _).alloc (by simp; omega) _)
  | some qq =>
    obtain ⟨N, t⟩ := qq
    obtain ⟨q, u, bs2, hq, ht, rfl, how, hge, hnd⟩ := hp4.2.1 N t hr
    obtain ⟨ua, uc, rfl⟩ := how.val
    have hks := sp_sz _ _ _ _ hr
    have HOW := hide how
    have HGE := hide hge
    have HND := hide hnd
    by_cases hql : q = s.length
    case neg =>
      have HN := hide (show resL s = none by
        rw [resLM, resM, hr, ht]
        cases h : s.drop q with
        | nil =>
          have := congrArg List.length h
          simp at this
          omega
        | cons a b => rfl)
      have hne : ¬ (q : Int) = (s.length : Int) := by omega
      clear hp4 hr how hge hnd
      go_wp2_with fail
      refine bodyPost_ret (v := .tuple #[.agg #[.int .i64 0, .string ⟨#[]⟩, .int .i64 0, .slice none 0 0], .bool false]) (by simp [results, Tryd.results150, go_sem, *]) rfl ?_
      exact pl_no HN.out ((below_set4 HB4.out (Nat.le_refl _) _ _ _ _).alloc (by simp; omega) _)
    case pos =>
      have hq2 : (q : Int) = (s.length : Int) := by omega
      have hs0 : s ≠ [] := by
        rintro rfl
        have h0 : sp 40 [] = none := rfl
        rw [h0] at hr
        cases hr
      have he : (bs s).toList.isEmpty = false := by
        cases s with
        | nil => exact absurd rfl hs0
        | cons a b => exact bs_full a b
      have hne1 : ¬ (bs s).toList = [] := by
        cases s with
        | nil => exact absurd rfl hs0
        | cons a b => exact bs_ne a b
      have ht0 : t = [] := by rw [ht, hql, List.drop_length]
      have hks : N.kids.sz ≤ 1048576 := by omega
      have HQ := hide (show sp 40 s = some (N, []) by rw [hr, ht0])
      clear hp4 hr how hge hnd hq ht ht0 hql
      go_wp2_with fail
      refine (specFormat _ N.k N.ix N.fr (.slice ua N.kids.len uc) N.kids (HOW.out.sl.still (Still.of_below (alloc_below w4 _))) hks).mono ?_
      rintro e w2 ⟨rfl, hb⟩
      have hb12 := alloc_then hb
      have hbx := (Box4.now w4 (.int .i64 N.k) (.string N.fr) (.int .i64 N.ix) (.slice ua N.kids.len uc) ( /- t -/ 35)).below hb
      obtain ⟨z0, z1, z2, z3⟩ := hbx.cells
      have zl := hbx.lt
      have hx2 := HX4.out.below hb12
      obtain ⟨x0, x1, x2, x3⟩ := hx2.cells
      have fx := box4_frozen hx2
      have lx := hx2.lt
      have HB2 := hide (HB4.out.trans (hb12.mono (by omega)))
      have HOW2 := hide (HOW.out.same (Same.of_below hb12 HOW.out.lt))
      have hs24 := hb12.size
      clear hb hbx hx2 y0 y1 y2 y3 hf hl
      by_cases heq : textN N.k N.fr N.ix N.kids = bs s
      · have HN := hide (show resL s = some N by
          rw [resLM, resM, HQ.out]
          show (if _ then _ else _) = _
          rw [if_pos ((text_iff N hs0).1 heq)])
        rw [heq]
        clear heq
        go_wp2_with fail
        refine bodyPost_ret (v := .tuple #[.agg #[.int .i64 N.k, .string N.fr, .int .i64 N.ix, .slice ua N.kids.len uc], .bool true]) (by simp [results, Tryd.results150, go_sem, *]) rfl ?_
        exact pl_yes HN.out (ow_set4 HOW2.out (fun b hb => by have := HGE.out b hb; omega) _ _ _ _) (fun b hb => by have := HGE.out b hb; omega) HND.out (below_set4 HB2.out (Nat.le_refl _) _ _ _ _)
      · have HN := hide (show resL s = none by
          rw [resLM, resM, HQ.out]
          show (if _ then _ else _) = _
          rw [if_neg (fun h => heq ((text_iff N hs0).2 h))])
        have hnb : ((textN N.k N.fr N.ix N.kids).toList == (bs s).toList) = false := beq_eq_false_iff_ne.2 (fun h => heq (by
          rw [ByteArray.toList_eq, ByteArray.toList_eq] at h
          exact ByteArray.ext (Array.toList_inj.1 h)))
        generalize textN N.k N.fr N.ix N.kids = tt at *
        clear heq
        go_wp2_with fail
        refine bodyPost_ret (v := .tuple #[.agg #[.int .i64 0, .string ⟨#[]⟩, .int .i64 0, .slice none 0 0], .bool false]) (by simp [results, Tryd.results150, go_sem, *]) rfl ?_
        exact pl_no HN.out (below_set4 HB2.out (Nat.le_refl _) _ _ _ _)
end Go.Proofs.YtfppglfajbmapaaDoor.Lo.Ne

/- l2Local and l2Draw of the model: a tree in memory of its own. -/
namespace Go.Proofs.YtfppglfajbmapaaDoor.Lo
open Go.RowKit

namespace Ne
theorem sm_vld : ∀ (f : F) (b u d : Int), 0 ≤ u → vldF f b u d = true → digF f = true → smF f := by
  intro f
  induction f with
  | nil => intro b u d _ _ _; trivial
  | cons lab k fr ix kids rest ihk ihr =>
    intro b u d hu hv hd
    simp only [vldF, Bool.and_eq_true] at hv
    simp only [digF, Bool.and_eq_true] at hd
    have hn : vldN k fr ix kids b u d = true := hv.1
    unfold vldN at hn
    obtain ⟨hd1, hsh, hk⟩ := node_kinds hu hn
    have hix : 0 ≤ ix ∧ ix ≤ 9 ∧ smF kids := by
      rcases hk with rfl | ⟨rfl, h0, h1, rfl⟩ | ⟨rfl, hr⟩ | ⟨hkk, ha⟩
      · obtain ⟨e1, rfl, rfl⟩ := shape_end hsh
        exact ⟨by omega, by omega, trivial⟩
      · exact ⟨h0, by simpa using hd.1, trivial⟩
      · obtain ⟨e1, rfl, lab', k', fr', ix', kids', rfl, e2⟩ := shape_rec hsh
        exact ⟨by omega, by omega, ihk (b + 1) (u + 1) (d - 1) (by omega) hr hd.2.1⟩
      · obtain ⟨e1, rfl, e3⟩ := shape_act hkk hsh
        exact ⟨by omega, by omega, ihk b 0 (d - 1) (by omega) ha hd.2.1⟩
    exact ⟨⟨hix.1, hix.2.1⟩, hix.2.2, ihr b u d hu hv.2 hd.2.2⟩
theorem out_facts (s : List UInt8) : (outL s).fr.size ≤ maxLen ∧ (Lit.int .i64 (outL s).k).wf = true ∧ (Lit.int .i64 (outL s).ix).wf = true ∧ (outL s).kids.sz ≤ 399 ∧ smF (outL s).kids := by
  cases h : resL s with
  | none =>
    unfold outL
    rw [h]
    exact ⟨Nat.zero_le _, by decide, by decide, Nat.zero_le _, trivial⟩
  | some N =>
    obtain ⟨h1, h2, -⟩ := (resL_iff s N).1 h
    unfold outL
    rw [h]
    show N.fr.size ≤ maxLen ∧ _ ∧ _ ∧ N.kids.sz ≤ 399 ∧ smF N.kids
    unfold okN at h1
    simp only [Bool.and_eq_true, decide_eq_true_eq] at h1
    have hn := h1.1
    unfold vldN at hn
    obtain ⟨hd1, hsh, hk⟩ := node_kinds (by omega) hn
    unfold digN at h2
    simp only [Bool.and_eq_true] at h2
    rcases hk with hk | ⟨hk, h0, h3, hkn⟩ | ⟨hk, hr⟩ | ⟨hkk, ha⟩
    · rw [hk] at hsh
      obtain ⟨e1, e2, e3⟩ := shape_end hsh
      obtain e1 := empty_of_list e1
      show N.fr.size ≤ maxLen ∧ (Lit.int .i64 N.k).wf = true ∧ (Lit.int .i64 N.ix).wf = true ∧ _
      rw [e1, e2, e3, hk]
      exact ⟨Nat.zero_le _, by decide, by decide, Nat.zero_le _, trivial⟩
    · omega
    · rw [hk] at hsh
      obtain ⟨e1, e2, lab', k', fr', ix', kids', e3, e4⟩ := shape_rec hsh
      obtain e1 := empty_of_list e1
      show N.fr.size ≤ maxLen ∧ (Lit.int .i64 N.k).wf = true ∧ (Lit.int .i64 N.ix).wf = true ∧ _
      rw [e1, e2, hk]
      exact ⟨Nat.zero_le _, by decide, by decide, by omega, sm_vld _ 1 1 39 (by omega) hr h2.2⟩
    · obtain ⟨e1, e2, e3⟩ := shape_act hkk hsh
      have e4 := role_size e1
      show N.fr.size ≤ maxLen ∧ (Lit.int .i64 N.k).wf = true ∧ (Lit.int .i64 N.ix).wf = true ∧ _
      rw [e2]
      refine ⟨by rw [e4]; unfold maxLen; omega, ?_, by decide, by omega, sm_vld _ 0 0 39 (by omega) ha h2.2⟩
      rcases hkk with hkk | hkk <;> (rw [hkk]; decide)
end Ne

theorem sl6 (w : World) (s0 s1 s2 s3 s4 s5 : ByteArray) (t : TypeId) (h0 : s0.size ≤ maxLen) (h1 : s1.size ≤ maxLen) (h2 : s2.size ≤ maxLen) (h3 : s3.size ≤ maxLen) (h4 : s4.size ≤ maxLen) (h5 : s5.size ≤ maxLen) :
    SlG elS (w.alloc (.cells #[.string s0, .string s1, .string s2, .string s3, .string s4, .string s5] t)) (.slice (some ⟨w.heap.size, 0, none⟩) 6 6) [s0, s1, s2, s3, s4, s5] := by
  have hh := heap_new w (.cells #[.string s0, .string s1, .string s2, .string s3, .string s4, .string s5] t)
  refine ⟨_, 6, rfl, Nat.le_refl _, by unfold maxLen; omega, Or.inr ⟨w.heap.size, 0, rfl, ⟨h0, ?_⟩, ⟨h1, ?_⟩, ⟨h2, ?_⟩, ⟨h3, ?_⟩, ⟨h4, ?_⟩, ⟨h5, ?_⟩, trivial⟩⟩
  all_goals (rw [cell_of_heap hh]; rfl)
theorem sl4i (w : World) (s0 s1 s2 s3 : Int) (t : TypeId) :
    SlG elI64 (w.alloc (.cells #[.int .i64 s0, .int .i64 s1, .int .i64 s2, .int .i64 s3] t)) (.slice (some ⟨w.heap.size, 0, none⟩) 4 4) [s0, s1, s2, s3] := by
  have hh := heap_new w (.cells #[.int .i64 s0, .int .i64 s1, .int .i64 s2, .int .i64 s3] t)
  refine ⟨_, 4, rfl, Nat.le_refl _, by unfold maxLen; omega, Or.inr ⟨w.heap.size, 0, rfl, ?_, ?_, ?_, ?_, trivial⟩⟩
  all_goals (show World.cell? _ _ = _; rw [cell_of_heap hh]; rfl)
theorem size_all {fr : ByteArray} {L : List ByteArray} (n : Nat) (h : fr ∈ L) (hL : L.all (fun s => decide (s.size ≤ n)) = true) : fr.size ≤ n := of_decide_eq_true (List.all_eq_true.1 hL fr h)
theorem qs_le4 {D : Nat} (h : D ≤ 4) : qs D ≤ 2304 ∧ zs D ≤ 120 := by
  have : D = 0 ∨ D = 1 ∨ D = 2 ∨ D = 3 ∨ D = 4 := by omega
  rcases this with rfl | rfl | rfl | rfl | rfl <;> decide

set_option maxHeartbeats 2000000 in
set_option maxRecDepth 100000 in
theorem local_calls (w : World) (rb : Nat) (cv : Value) (l : List Nat) (p : Nat) (h : Rd w rb cv l p) (hp : p + 3000 ≤ 1000000) :
    Calls Tryd.prog 98 #[.pointer (some ⟨rb, 0, none⟩)] w (DrP (fun N => smF N.kids) w rb cv l p 2310 400) := by
  have hrb := h.lt
  have HS := hide (St.new h ( /- t -/ 35))
  clear h
  go_enter Tryd.func98, Tryd.ntmps98
  go_upto_region 1 with fail
  generalize w.alloc (.cells #[.int .i64 0, .string ⟨#[]⟩, .int .i64 0, .slice none 0 0] ( /- t -/ 35)) = W at *
  go_wp2_with fail
  refine (pick_calls _ rb cv l _ HS.out.rd (by omega) 2 (by omega)).mono ?_
  rintro e w1 ⟨v, rfl, hv, hask⟩
  have H1 := hide (HS.out.ask hask)
  clear hask HS
  by_cases hv0 : v = 0
  case pos =>
    subst hv0
    go_wp2_with fail
    have HA0 := hide (H1.out.alloc (.cells #[.string ⟨#[64, 66, 33, 123, 97, 35, 48, 124, 98, 46, 125]⟩, .string ⟨#[64, 65, 63, 123, 97, 35, 48, 124, 98, 46, 125]⟩, .string ⟨#[66, 33, 123, 97, 67, 63, 123, 100, 46, 125, 124, 98, 67, 63, 123, 100, 46, 125, 125]⟩, .string ⟨#[64, 65, 63, 123, 97, 64, 67, 33, 123, 98, 35, 48, 124, 99, 35, 49, 125, 124, 100, 46, 125]⟩, .string ⟨#[66, 63, 123, 97, 46, 124, 98, 67, 33, 123, 97, 46, 125, 125]⟩, .string ⟨#[46]⟩] ( /- t -/ 9)))
    refine (of_calls _ rb cv l _ HA0.out.rd (by omega) [⟨#[64, 66, 33, 123, 97, 35, 48, 124, 98, 46, 125]⟩, ⟨#[64, 65, 63, 123, 97, 35, 48, 124, 98, 46, 125]⟩, ⟨#[66, 33, 123, 97, 67, 63, 123, 100, 46, 125, 124, 98, 67, 63, 123, 100, 46, 125, 125]⟩, ⟨#[64, 65, 63, 123, 97, 64, 67, 33, 123, 98, 35, 48, 124, 99, 35, 49, 125, 124, 100, 46, 125]⟩, ⟨#[66, 63, 123, 97, 46, 124, 98, 67, 33, 123, 97, 46, 125, 125]⟩, ⟨#[46]⟩] _ (sl6 w1 _ _ _ _ _ _ ( /- t -/ 9) (show (11 : Nat) ≤ maxLen by unfold maxLen; omega) (show (11 : Nat) ≤ maxLen by unfold maxLen; omega) (show (19 : Nat) ≤ maxLen by unfold maxLen; omega) (show (21 : Nat) ≤ maxLen by unfold maxLen; omega) (show (14 : Nat) ≤ maxLen by unfold maxLen; omega) (show (1 : Nat) ≤ maxLen by unfold maxLen; omega)) (by decide) (by decide) (new_far H1.out.rd.lt)).mono ?_
    rintro e w2 ⟨s, hs, rfl, hask⟩
    have H2 := hide (HA0.out.ask hask)
    have hsz := size_all 100 hs (by decide)
    clear hask HA0 hs
    have HP := hide (Ne.specParseL w2 s.data.toList (by have := Ne.bs_size s.data.toList; rw [Ne.bs_list] at this; omega))
    rw [Ne.bs_list] at HP
    obtain ⟨o1, o2, o3, o4, o5⟩ := Ne.out_facts s.data.toList
    have HO := hide (And.intro o1 (And.intro o2 (And.intro o3 (And.intro o4 o5))))
    clear o1 o2 o3 o4 o5
    go_wp2_with fail
    refine HP.out.mono ?_
    unfold Ne.PlPost
    generalize Ne.outL s.data.toList = N at *
    generalize (Ne.resL s.data.toList).isSome = ok at *
    rintro e w3 ⟨u, bs, rfl, how, hge, hnd, hb⟩
    obtain ⟨ua, uc, rfl⟩ := how.val
    have H3 := hide (H2.out.below hb)
    have HOW := hide how
    have HGE : Hid (∀ x, x ∈ bs → w.heap.size < x) := hide (fun x hx => by have h1 := hge x hx; have h2 := H2.out.box.lt; omega)
    have HND := hide hnd
    obtain ⟨x0, x1, x2, x3⟩ := H3.out.box.cells
    have fx := H3.out.box.frozen
    have lx := H3.out.box.lt
    clear how hge hnd hb
    go_wp2_with fail
    try rw [set4_alloc _ _ _ _ _ _ _ lx]
    have H4 := hide (H3.out.alloc (.cells #[.int .i64 N.k, .string N.fr, .int .i64 N.ix, .slice ua N.kids.len uc] ( /- t -/ 35)))
    have HOW4 := hide (HOW.out.same (Same.of_below (alloc_below w3 (.cells #[.int .i64 N.k, .string N.fr, .int .i64 N.ix, .slice ua N.kids.len uc] ( /- t -/ 35))) HOW.out.lt))
    refine bodyPost_ret (v := .agg #[.int .i64 N.k, .string N.fr, .int .i64 N.ix, .slice ua N.kids.len uc]) (by simp [results, Tryd.results98, go_sem, *]) rfl ?_
    exact ⟨⟨N.k, N.fr, N.ix, N.kids⟩, _, bs, rfl, HO.out.2.2.2.2, dr_fin (N := ⟨N.k, N.fr, N.ix, N.kids⟩) H4.out.start H4.out.only H4.out.rd (by omega) HOW4.out w.heap.size (Nat.le_refl _) HGE.out HND.out ⟨HO.out.1, HO.out.2.1, HO.out.2.2.1⟩ (Nat.le_trans HO.out.2.2.2.1 (by omega)) _ _ _ _⟩
  case neg =>
    have hv1 : ((v : Int) == 0) = false := beq_eq_false_iff_ne.2 (by omega)
    have hv2 : ¬ (v : Int) = 0 := by omega
    go_wp2_with fail
    have HA0 := hide (H1.out.alloc (.cells #[.int .i64 3, .int .i64 2, .int .i64 4, .int .i64 1] ( /- t -/ 3)))
    refine (num_calls _ rb cv l _ HA0.out.rd (by omega) [3, 2, 4, 1] _ (sl4i w1 _ _ _ _ ( /- t -/ 3)) (by decide) (by decide) (new_far H1.out.rd.lt)).mono ?_
    rintro e w2 ⟨nv, hnv, rfl, hask⟩
    have H2 := hide (HA0.out.ask hask)
    have hD : ∃ D : Nat, D ≤ 4 ∧ nv = (D : Int) := by
      simp only [List.mem_cons, List.not_mem_nil, or_false] at hnv
      exact ⟨nv.toNat, by omega, by omega⟩
    obtain ⟨D, hD4, rfl⟩ := hD
    obtain ⟨hq, hz⟩ := qs_le4 hD4
    clear hask HA0 hnv
    go_wp2_with fail
    refine (rand_all D (by omega) w2 rb cv l _ H2.out.rd (by omega) 0 0 (by omega) (by omega) (by omega)).mono ?_
    rintro e w3 ⟨N, un, bs, rfl, hqn, hdr⟩
    obtain ⟨ua, uc, rfl⟩ := hdr.own.val
    obtain ⟨p', hp', hrd⟩ := hdr.rd
    have H3 := hide (H2.out.on hdr.only hrd)
    have HDR := hide hdr
    have HQN := hide hqn
    obtain ⟨x0, x1, x2, x3⟩ := H3.out.box.cells
    have fx := H3.out.box.frozen
    have lx := H3.out.box.lt
    clear hdr hrd hqn
    go_wp2_with fail
    refine bodyPost_ret (v := .agg #[.int .i64 N.k, .string N.fr, .int .i64 N.ix, .slice ua N.kids.len uc]) (by simp [results, Tryd.results98, go_sem, *]) rfl ?_
    exact ⟨N, _, bs, rfl, HQN.out.2, dr_fin H3.out.start H3.out.only H3.out.rd (by omega) HDR.out.own w.heap.size (Nat.le_refl _) (fun x hx => by have h1 := HDR.out.ge x hx; have h2 := H2.out.box.lt; omega) HDR.out.nd HDR.out.fit (Nat.le_trans HDR.out.sz (by omega)) _ _ _ _⟩

/-- A drawn tree: memory of its own, of moderate size. -/
def Drawn (w : World) (e : Ending) (w' : World) : Prop :=
  ∃ (N : Nd) (u : Value) (bs : List Nat), e = .returned (.agg #[.int .i64 N.k, .string N.fr, .int .i64 N.ix, u]) ∧ Ow w' u N.kids bs ∧ (∀ b, b ∈ bs → w.heap.size ≤ b) ∧ bs.Nodup ∧ Below w.heap.size w w' ∧ Fit N ∧ N.kids.sz ≤ 500 ∧ smF N.kids

theorem drawn_set {w w2 : World} {N : Nd} {u : Value} {bs : List Nat} (how : Ow w2 u N.kids bs) (hge : ∀ x, x ∈ bs → w.heap.size < x) (hnd : bs.Nodup) (hb : Below w.heap.size w w2) (hf : Fit N) (hs : N.kids.sz ≤ 500) (hm : smF N.kids) (v0 v1 v2 v3 : Value) :
    Drawn w (.returned (.agg #[.int .i64 N.k, .string N.fr, .int .i64 N.ix, u])) ((((w2.setCell ⟨w.heap.size, 0, none⟩ v0).setCell ⟨w.heap.size, 1, none⟩ v1).setCell ⟨w.heap.size, 2, none⟩ v2).setCell ⟨w.heap.size, 3, none⟩ v3) := by
  have hne : ∀ x, x ≠ w.heap.size → ((((w2.setCell ⟨w.heap.size, 0, none⟩ v0).setCell ⟨w.heap.size, 1, none⟩ v1).setCell ⟨w.heap.size, 2, none⟩ v2).setCell ⟨w.heap.size, 3, none⟩ v3).heap[x]? = w2.heap[x]? := fun x hx =>
    (Below.heap_setCell _ _ _ _ hx).trans ((Below.heap_setCell _ _ _ _ hx).trans ((Below.heap_setCell _ _ _ _ hx).trans (Below.heap_setCell _ _ _ _ hx)))
  exact ⟨N, u, bs, rfl, how.same (fun x hx => hne x (by have := hge x hx; omega)), fun x hx => Nat.le_of_lt (hge x hx), hnd, (((hb.setCell (Nat.le_refl _) _).setCell (Nat.le_refl _) _).setCell (Nat.le_refl _) _).setCell (Nat.le_refl _) _, hf, hs, hm⟩

set_option maxHeartbeats 2000000 in
set_option maxRecDepth 100000 in
theorem draw_calls (w : World) (sv : Value) (l : List Nat) (hs : SlG elY w sv l) : Calls Tryd.prog 52 #[sv] w (Drawn w) := by
  have HSV := hide hs
  clear hs
  go_enter Tryd.func52, Tryd.ntmps52
  go_upto_region 1 with fail
  have hx0 := Box4.now w (.int .i64 0) (.string ⟨#[]⟩) (.int .i64 0) (.slice none 0 0) ( /- t -/ 35)
  have hb0 := alloc_below w (.cells #[.int .i64 0, .string ⟨#[]⟩, .int .i64 0, .slice none 0 0] ( /- t -/ 35))
  have hz0 : (w.alloc (.cells #[.int .i64 0, .string ⟨#[]⟩, .int .i64 0, .slice none 0 0] ( /- t -/ 35))).heap.size = w.heap.size + 1 := by simp
  generalize w.alloc (.cells #[.int .i64 0, .string ⟨#[]⟩, .int .i64 0, .slice none 0 0] ( /- t -/ 35)) = W at *
  have HX0 := hide hx0
  have HB0 := hide hb0
  have HZ0 := hide hz0
  clear hx0 hb0 hz0
  go_wp2_with fail
  refine (open_rd W sv l (HSV.out.still (Still.of_below HB0.out))).mono ?_
  rintro e w1 ⟨cv, l', rfl, hrd, hb, hz⟩
  have HX1 := hide (HX0.out.below hb)
  have HB1 := hide (HB0.out.trans (hb.mono (by have := HZ0.out; omega)))
  have HRD := hide hrd
  have HZ1 := hide hz
  have hrbz : w.heap.size < W.heap.size := by have := HZ0.out; omega
  clear hrd hb hz HX0 HB0 HZ0
  generalize W.heap.size = rb at *
  go_wp2_with fail
  refine (local_calls w1 rb cv l' 0 HRD.out (by omega)).mono ?_
  rintro e w2 ⟨N, u, bs, rfl, hq, hdr⟩
  obtain ⟨ua, uc, rfl⟩ := hdr.own.val
  obtain ⟨p', hp', hrd2⟩ := hdr.rd
  have HX2 := hide (HX1.out.same (hdr.only.block _ HX1.out.lt (by omega)))
  have HB2 := hide (HB1.out.trans (hdr.only.to_below (B := w.heap.size) (by omega) (by have := HX1.out.lt; omega)))
  have HDR := hide hdr
  have HRD2 := hide hrd2
  have HQ := hide hq
  have hw2 : w.heap.size < w2.heap.size := HX2.out.lt
  clear hdr hrd2 hq HX1 HB1 HRD
  go_wp2_with fail
  refine (mut_calls w2 rb cv l' p' HRD2.out (by omega) N _ HDR.out.own.sl HDR.out.fit (by have := HDR.out.sz; omega)).mono ?_
  rintro e w3 ⟨N3, u3, bs3, rfl, hq3, hdr3⟩
  obtain ⟨va, vc, rfl⟩ := hdr3.own.val
  have HX3 := hide (HX2.out.same (hdr3.only.block _ HX2.out.lt (by omega)))
  have HB3 := hide (HB2.out.trans (hdr3.only.to_below (B := w.heap.size) (by omega) (by omega)))
  have HD3 := hide hdr3
  have HQ3 := hide (hq3 HQ.out)
  obtain ⟨x0, x1, x2, x3⟩ := HX3.out.cells
  have fx := HX3.out.frozen
  have lx := HX3.out.lt
  clear hdr3 hq3 HX2 HB2
  go_wp2_with fail
  refine bodyPost_ret (v := .agg #[.int .i64 N3.k, .string N3.fr, .int .i64 N3.ix, .slice va N3.kids.len vc]) (by simp [results, Tryd.results52, go_sem, *]) rfl ?_
  exact drawn_set HD3.out.own (fun x hx => by have := HD3.out.ge x hx; omega) HD3.out.nd HB3.out HD3.out.fit (by have h1 := HD3.out.sz; have h2 := HDR.out.sz; omega) HQ3.out _ _ _ _
end Go.Proofs.YtfppglfajbmapaaDoor.Lo

/- When two trees are equal, as a Boolean. -/
namespace Go.Proofs.YtfppglfajbmapaaDoor.Lo
open Go.RowKit

def headB (k : Int) (fr : ByteArray) (ix : Int) (l : Nat) (k' : Int) (fr' : ByteArray) (ix' : Int) (l' : Nat) : Bool :=
  (k == k') && ((fr.toList == fr'.toList) && ((ix == ix') && (l == l')))
def sameF : F → F → Bool
  | .nil, .nil => true
  | .cons lab k fr ix kids rest, .cons lab' k' fr' ix' kids' rest' =>
    (lab.toList == lab'.toList) && ((headB k fr ix kids.len k' fr' ix' kids'.len && sameF kids kids') && sameF rest rest')
  | _, _ => false
def sameN (k : Int) (fr : ByteArray) (ix : Int) (f : F) (k' : Int) (fr' : ByteArray) (ix' : Int) (f' : F) : Bool :=
  headB k fr ix f.len k' fr' ix' f'.len && sameF f f'

theorem headB_no {k ix : Int} {fr fr' : ByteArray} {l l' : Nat} (h : headB k fr ix l k fr' ix l' = false) (e1 : fr.toList = fr'.toList) (e3 : ((l : Int) != (l' : Int)) = false) : False := by
  have e4 : l = l' := by
    have : (l : Int) = l' := by simpa using e3
    omega
  simp [headB, e1, e4] at h
end Go.Proofs.YtfppglfajbmapaaDoor.Lo

/- The comparison of two trees by a list of pairs: what a pair is, what holds of the list and of the pairs that were seen. -/
namespace Go.Proofs.YtfppglfajbmapaaDoor.Lo
open Go.RowKit

def likeB (k : Int) (fr : ByteArray) (ix : Int) (k' : Int) (fr' : ByteArray) (ix' : Int) : Bool :=
  (k == k') && ((fr.toList == fr'.toList) && (ix == ix'))
theorem headB_like (k : Int) (fr : ByteArray) (ix : Int) (l : Nat) (k' : Int) (fr' : ByteArray) (ix' : Int) (l' : Nat) :
    headB k fr ix l k' fr' ix' l' = (likeB k fr ix k' fr' ix' && (l == l')) := by
  unfold headB likeB
  simp only [Bool.and_assoc]

/-- A pair of nodes. -/
structure Pr where
  k : Int
  fr : ByteArray
  ix : Int
  s : Value
  f : F
  k' : Int
  fr' : ByteArray
  ix' : Int
  s' : Value
  f' : F
def Pr.b (p : Pr) : Bool := sameN p.k p.fr p.ix p.f p.k' p.fr' p.ix' p.f'
def Pr.cells (p : Pr) : List Value := [.int .i64 p.k, .string p.fr, .int .i64 p.ix, p.s, .int .i64 p.k', .string p.fr', .int .i64 p.ix', p.s']
def Pr.Ok (w : World) (p : Pr) : Prop := (∃ bs, Ow w p.s p.f bs) ∧ ∃ bs, Ow w p.s' p.f' bs
theorem cells_len (L : List Pr) : (L.flatMap Pr.cells).length = L.length * 8 := by
  induction L with
  | nil => rfl
  | cons p L ih => simp only [List.flatMap_cons, List.length_append, ih, List.length_cons, Pr.cells, List.length_nil]; omega
theorem cells_last (L : List Pr) (p : Pr) (j : Nat) : ((L ++ [p]).flatMap Pr.cells)[L.length * 8 + j]? = p.cells[j]? := by
  rw [List.flatMap_append, List.getElem?_append_right (by rw [cells_len]; omega), cells_len, Nat.add_sub_cancel_left]
  simp
theorem cells_take (L : List Pr) (p : Pr) : ((L ++ [p]).flatMap Pr.cells).take (L.length * 8) = L.flatMap Pr.cells := by
  rw [List.flatMap_append, List.take_append_of_le_length (by rw [cells_len]; omega), List.take_of_length_le (by rw [cells_len]; omega)]

/-- A pair of rows that was seen. -/
structure En where
  p : Nat
  q : Nat
  f : F
  g : F
def En.ky (e : En) : Ky := ⟨e.p, e.q, e.f.len⟩
def En.Ok (w : World) (e : En) : Prop := (∃ n bs, Free w e.p n ∧ OwRow w e.p 0 e.f bs) ∧ (∃ n bs, Free w e.q n ∧ OwRow w e.q 0 e.g bs) ∧ e.f.len = e.g.len

theorem row_one {w : World} : ∀ (f f' : F) (b o : Nat), Row w b o f → Row w b o f' → f.len = f'.len → f = f' := by
  intro f
  induction f with
  | nil => intro f' b o _ _ h; cases f' with
    | nil => rfl
    | cons => simp [F.len] at h
  | cons lab k fr ix kids rest ihk ihr =>
    intro f' b o h1 h2 hl
    cases f' with
    | nil => simp [F.len] at hl
    | cons lab' k' fr' ix' kids' rest' =>
      obtain ⟨_, _, _, _, c0, c1, c2, c3, ⟨a, cap, c5, _, _, hk⟩, hr⟩ := h1
      obtain ⟨_, _, _, _, d0, d1, d2, d3, ⟨a', cap', d5, _, _, hk'⟩, hr'⟩ := h2
      rw [c0] at d0; rw [c1] at d1; rw [c2] at d2; rw [c3] at d3; rw [c5] at d5
      simp only [Option.some.injEq, Value.string.injEq, Value.int.injEq, Value.slice.injEq, true_and] at d0 d1 d2 d3 d5
      obtain ⟨rfl, hkl, rfl⟩ := d5
      subst d0 d1 d2 d3
      have e1 : rest = rest' := ihr rest' b (o + 5) hr hr' (by simpa [F.len] using hl)
      have e2 : kids = kids' := by
        rcases hk with rfl | ⟨b', o', rfl, hk⟩
        · cases kids' with
          | nil => rfl
          | cons => simp [F.len] at hkl
        · rcases hk' with rfl | ⟨b2, o2, e, hk'⟩
          · cases kids with
            | nil => rfl
            | cons => simp [F.len] at hkl
          · simp only [Option.some.injEq, Addr.mk.injEq, and_true] at e
            obtain ⟨rfl, rfl⟩ := e
            exact ihk kids' _ _ hk hk' hkl
      rw [e1, e2]

theorem En.one {w : World} {x y : En} (hx : x.Ok w) (hy : y.Ok w) (h : x.ky.same y.ky = true) : x.f = y.f ∧ x.g = y.g := by
  simp only [Ky.same, En.ky, Bool.and_eq_true, beq_iff_eq] at h
  obtain ⟨h1, h2, h3⟩ := h
  obtain ⟨⟨_, _, _, a1⟩, ⟨_, _, _, a2⟩, a3⟩ := hx
  obtain ⟨⟨_, _, _, b1⟩, ⟨_, _, _, b2⟩, b3⟩ := hy
  rw [← h1] at b1
  rw [← h2] at b2
  exact ⟨row_one _ _ _ _ (a1.row) (b1.row) h3, row_one _ _ _ _ (a2.row) (b2.row) (by omega)⟩

/-- What holds between rounds: root is true just if all pairs that are to be compared are; a pair that was seen is equal if all smaller ones that are to be compared are. -/
structure Inv (root : Bool) (L : List Pr) (S : List En) : Prop where
  need : root = true → ∀ p, p ∈ L → p.b = true
  suff : (∀ p, p ∈ L → p.b = true) → root = true
  seen : ∀ e, e ∈ S → (∀ p, p ∈ L → p.f.sz < e.f.sz → p.b = true) → sameF e.f e.g = true

theorem Inv.start (x : Pr) : Inv x.b [x] [] := ⟨fun h p hp => by simp at hp; rw [hp]; exact h, fun h => h x (by simp), fun e he => by simp at he⟩
theorem Inv.done {root : Bool} {S : List En} (h : Inv root [] S) : root = true := h.suff (fun p hp => by simp at hp)
theorem Inv.no {root : Bool} {L : List Pr} {S : List En} {x : Pr} (h : Inv root (L ++ [x]) S) (hx : x.b = false) : root = false := by
  cases hr : root with
  | false => rfl
  | true => rw [h.need hr x (by simp)] at hx; cases hx
theorem Inv.leaf {root : Bool} {L : List Pr} {S : List En} {x : Pr} (h : Inv root (L ++ [x]) S) (hx : x.b = true) : Inv root L S where
  need hr p hp := h.need hr p (by simp [hp])
  suff hL := h.suff (fun p hp => by
    rcases List.mem_append.1 hp with hp | hp
    · exact hL p hp
    · simp at hp; rw [hp]; exact hx)
  seen e he hL := h.seen e he (fun p hp hs => by
    rcases List.mem_append.1 hp with hp | hp
    · exact hL p hp hs
    · simp at hp; rw [hp]; exact hx)
theorem Inv.known {root : Bool} {L : List Pr} {S : List En} {x : Pr} (h : Inv root (L ++ [x]) S) (hh : headB x.k x.fr x.ix x.f.len x.k' x.fr' x.ix' x.f'.len = true) {e : En} (he : e ∈ S) (h1 : e.f = x.f) (h2 : e.g = x.f') : Inv root L S := by
  have key : (∀ p, p ∈ L → p.f.sz < x.f.sz → p.b = true) → x.b = true := fun hL => by
    have := h.seen e he (fun p hp hs => by
      rw [h1] at hs
      rcases List.mem_append.1 hp with hp | hp
      · exact hL p hp hs
      · simp at hp; rw [hp] at hs; omega)
    rw [h1, h2] at this
    simp [Pr.b, sameN, hh, this]
  refine ⟨fun hr p hp => h.need hr p (by simp [hp]), fun hL => h.suff (fun p hp => ?_), fun e' he' hL => h.seen e' he' (fun p hp hs => ?_)⟩
  · rcases List.mem_append.1 hp with hp | hp
    · exact hL p hp
    · simp at hp; rw [hp]; exact key (fun p hp _ => hL p hp)
  · rcases List.mem_append.1 hp with hp | hp
    · exact hL p hp hs
    · simp at hp; rw [hp] at hs ⊢; exact key (fun p hp hs' => hL p hp (by omega))
theorem Inv.push {root : Bool} {L P : List Pr} {S : List En} {x : Pr} (h : Inv root (L ++ [x]) S) (hh : headB x.k x.fr x.ix x.f.len x.k' x.fr' x.ix' x.f'.len = true) {e : En} (h1 : e.f = x.f) (h2 : e.g = x.f')
    (hP : sameF x.f x.f' = P.all Pr.b) (hs : ∀ p, p ∈ P → p.f.sz < x.f.sz) : Inv root (L ++ P) (S ++ [e]) := by
  have hx : x.b = P.all Pr.b := by simp [Pr.b, sameN, hh, ← hP]
  have key : (∀ p, p ∈ P → p.b = true) → x.b = true := fun hL => by rw [hx]; exact List.all_eq_true.2 hL
  refine ⟨fun hr p hp => ?_, fun hL => h.suff (fun p hp => ?_), fun e' he' hL => ?_⟩
  · rcases List.mem_append.1 hp with hp | hp
    · exact h.need hr p (by simp [hp])
    · have := h.need hr x (by simp)
      rw [hx] at this
      exact List.all_eq_true.1 this p hp
  · rcases List.mem_append.1 hp with hp | hp
    · exact hL p (by simp [hp])
    · simp at hp; rw [hp]; exact key (fun p hp => hL p (by simp [hp]))
  · rcases List.mem_append.1 he' with he' | he'
    · refine h.seen e' he' (fun p hp hsz => ?_)
      rcases List.mem_append.1 hp with hp | hp
      · exact hL p (by simp [hp]) hsz
      · simp at hp
        rw [hp] at hsz ⊢
        exact key (fun p hp => hL p (by simp [hp]) (by have := hs p hp; omega))
    · simp at he'
      subst he'
      rw [h1, h2, hP]
      exact List.all_eq_true.2 (fun p hp => hL p (by simp [hp]) (by rw [h1]; exact hs p hp))

/-- How many nodes are to be compared at most. -/
def wsum : List Pr → Nat
  | [] => 0
  | p :: L => p.f.sz + 1 + wsum L
theorem wsum_app (L M : List Pr) : wsum (L ++ M) = wsum L + wsum M := by
  induction L with
  | nil => simp [wsum]
  | cons p L ih => simp only [List.cons_append, wsum, ih]; omega
theorem len_wsum (L : List Pr) : L.length ≤ wsum L := by
  induction L with
  | nil => simp
  | cons p L ih => simp only [List.length_cons, wsum]; omega

end Go.Proofs.YtfppglfajbmapaaDoor.Lo

/- The small functions that the comparison of two local types calls. -/
namespace Go.Proofs.YtfppglfajbmapaaDoor.Lo
open Go.RowKit

theorem likeB_split (k : Int) (fr : ByteArray) (ix : Int) (k' : Int) (fr' : ByteArray) (ix' : Int) :
    likeB k fr ix k' fr' ix' = ((k == k') && ((fr.toList == fr'.toList) && (ix == ix'))) := rfl

set_option maxHeartbeats 800000 in
theorem like_calls (w : World) (k ix k' ix' : Int) (fr fr' : ByteArray) (a a' : Option Addr) (n c n' c' : Nat) :
    Calls Tryd.prog 60 #[.agg #[.int .i64 k, .string fr, .int .i64 ix, .slice a n c], .agg #[.int .i64 k', .string fr', .int .i64 ix', .slice a' n' c']] w
      fun e w' => e = .returned (.bool (likeB k fr ix k' fr' ix')) ∧ Below w.heap.size w w' := by
  have hb0 := (alloc_below w (.cells #[.int .i64 k, .string fr, .int .i64 ix, .slice a n c] ( /- t -/ 35))).alloc (by simp) (.cells #[.int .i64 k', .string fr', .int .i64 ix', .slice a' n' c'] ( /- t -/ 35))
  go_enter Tryd.func60, Tryd.ntmps60
  go_wp2_with fail
  all_goals try subst_vars
  all_goals go_ret
  all_goals refine ⟨ret_bool ?_, hb0⟩
  all_goals simp_all [likeB_split]

set_option maxHeartbeats 800000 in
theorem kids_calls (w : World) (k ix : Int) (fr : ByteArray) (a : Option Addr) (n c : Nat) :
    Calls Tryd.prog 61 #[.agg #[.int .i64 k, .string fr, .int .i64 ix, .slice a n c]] w
      fun e w' => e = .returned (.slice a n c) ∧ Below w.heap.size w w' := by
  have hb0 := alloc_below w (.cells #[.int .i64 k, .string fr, .int .i64 ix, .slice a n c] ( /- t -/ 35))
  go_enter Tryd.func61, Tryd.ntmps61
  go_wp2_with fail
  go_ret
  exact ⟨rfl, hb0⟩

set_option maxHeartbeats 800000 in
set_option maxRecDepth 100000 in
theorem parts_calls (w : World) (lab : ByteArray) (k ix : Int) (fr : ByteArray) (a : Option Addr) (n c : Nat) :
    Calls Tryd.prog 62 #[.agg #[.string lab, .int .i64 k, .string fr, .int .i64 ix, .slice a n c]] w
      fun e w' => e = .returned (.tuple #[.string lab, .agg #[.int .i64 k, .string fr, .int .i64 ix, .slice a n c]]) ∧ Below w.heap.size w w' := by
  go_enter Tryd.func62, Tryd.ntmps62
  go_wp2_with fail
  go_region
  go_wp2_with fail
  go_returns
  exact ⟨rfl, ((alloc_below w _).alloc (by simp) _).drew⟩

end Go.Proofs.YtfppglfajbmapaaDoor.Lo

/- What holds between two rounds of the comparison of two local types. -/
namespace Go.Proofs.YtfppglfajbmapaaDoor.Lo
open Go.RowKit

/-- What holds between two rounds of the comparison. -/
def RelS (W0 : World) (root : Bool) (m n : Nat) (v : Value) (wr : World) : Prop :=
  ∃ (L : List Pr) (S : List En), wsum L ≤ n ∧ n ≤ 1048577 ∧ wr.ownsRow W0.heap.size ( /- t -/ 181) 8 v L.length (L.flatMap Pr.cells) ∧ MapIs wr m (S.map En.ky) ∧ Inv root L S ∧
    (∀ p, p ∈ L → p.Ok W0) ∧ (∀ e, e ∈ S → e.Ok W0) ∧ W0.heap.size ≤ m ∧ Below W0.heap.size W0 wr

theorem rel_start (w : World) (x : Pr) (o1 o2 : Obj) (hok : x.Ok w) (hsz : x.f.sz ≤ 1048576) :
    RelS w x.b (w.heap.size + 1 + 1) (x.f.sz + 1) (.slice (some ⟨w.heap.size + 1 + 1 + 1, 0, none⟩) 1 1) ((((w.alloc o1).alloc o2).alloc (.map #[] 0)).alloc (.cells x.cells.toArray ( /- t -/ 181))) := by
  have hs2 : ((w.alloc o1).alloc o2).heap.size = w.heap.size + 1 + 1 := by simp
  have hs3 : (((w.alloc o1).alloc o2).alloc (.map #[] 0)).heap.size = w.heap.size + 1 + 1 + 1 := by simp
  refine ⟨[x], [], ?_, by omega, ?_, ?_, Inv.start x, fun p hp => by simp at hp; rw [hp]; exact hok, fun e he => by simp at he, by omega, ?_⟩
  · simp [wsum]
  · have h := World.ownsRow_lit (base := w.heap.size) (e := ( /- t -/ 181)) (size := 8) (((w.alloc o1).alloc o2).alloc (.map #[] 0)) x.cells.toArray 1 (by rw [hs3]; omega) (by unfold maxLen; omega) rfl
    rw [hs3] at h
    simpa using h
  · have h := MapIs.made ((w.alloc o1).alloc o2)
    rw [hs2] at h
    exact h.same ((alloc_below (((w.alloc o1).alloc o2).alloc (.map #[] 0)) _).block _ (by rw [hs3]; omega))
  · exact (((((Below.refl _ _).alloc (Nat.le_refl _) _).alloc (by simp) _).alloc (by simp; omega) _).alloc (by simp; omega) _)

theorem row_shape {w : World} {base : Nat} {e : TypeId} {size : Nat} {v : Value} {n : Nat} {xs : List Value} (h : w.ownsRow base e size v n xs) : ∃ a cap, v = .slice a n cap := by
  rcases h.2 with ⟨rfl, rfl⟩ | ⟨g, cap, cur, rfl, _⟩
  · exact ⟨_, _, rfl⟩
  · exact ⟨_, _, rfl⟩
theorem row_cut {w : World} {base : Nat} {e : TypeId} {size : Nat} {g n m cap : Nat} {xs : List Value} (h : w.ownsRow base e size (.slice (some ⟨g, 0, none⟩) n cap) n xs) (hm : m ≤ n) :
    w.ownsRow base e size (.slice (some ⟨g, 0, none⟩) m cap) m (xs.take (m * size)) := by
  have hle : m * size ≤ n * size := Nat.mul_le_mul_right _ hm
  rcases h with ⟨hl, ⟨hv, _⟩ | ⟨g', cap', cur, hv, hb, hh, hc, hc', hs, ht⟩⟩
  · cases hv
  · simp only [Value.slice.injEq, Option.some.injEq, Addr.mk.injEq, and_true] at hv
    obtain ⟨rfl, -, rfl⟩ := hv
    refine ⟨by rw [List.length_take, hl, Nat.min_eq_left hle], Or.inr ⟨g, cap, cur, rfl, hb, hh, Nat.le_trans hm hc, hc', hs, ?_⟩⟩
    rw [← ht, List.take_take, Nat.min_eq_left hle]

theorem row_cap {w : World} {base : Nat} {e : TypeId} {size : Nat} {a : Option Addr} {n cap : Nat} {xs : List Value} (h : w.ownsRow base e size (.slice a n cap) n xs) : n ≤ cap ∧ cap ≤ maxLen := by
  rcases h.2 with ⟨e, rfl⟩ | ⟨g, cap', cur, e, _, _, h1, h2, _⟩
  · simp only [Value.slice.injEq] at e
    obtain ⟨_, _, rfl⟩ := e
    exact ⟨Nat.le_refl _, Nat.zero_le _⟩
  · simp only [Value.slice.injEq] at e
    obtain ⟨_, _, rfl⟩ := e
    exact ⟨h1, h2⟩

theorem two_new (w : World) (v0 v1 v2 v3 u0 u1 u2 u3 : Value) (t : TypeId) :
    Box4 (((w.alloc (.cells #[v0, v1, v2, v3] t)).alloc (.cells #[u0, u1, u2, u3] t)).drew) w.heap.size v0 v1 v2 v3 ∧
    Box4 (((w.alloc (.cells #[v0, v1, v2, v3] t)).alloc (.cells #[u0, u1, u2, u3] t)).drew) (w.heap.size + 1) u0 u1 u2 u3 ∧
    Below w.heap.size w (((w.alloc (.cells #[v0, v1, v2, v3] t)).alloc (.cells #[u0, u1, u2, u3] t)).drew) ∧ w.heap.size ≠ w.heap.size + 1 := by
  have h1 := Box4.now w v0 v1 v2 v3 t
  have h2 := Box4.now (w.alloc (.cells #[v0, v1, v2, v3] t)) u0 u1 u2 u3 t
  rw [show (w.alloc (.cells #[v0, v1, v2, v3] t)).heap.size = w.heap.size + 1 from by simp] at h2
  exact ⟨(h1.below (alloc_below _ _)).drew, h2.drew, ((alloc_below w _).alloc (by simp) _).drew, by omega⟩

theorem row_below {w w' : World} {base : Nat} {e : TypeId} {size : Nat} {v : Value} {n : Nat} {xs : List Value} (h : w.ownsRow base e size v n xs) (hb : Below w.heap.size w w') : w'.ownsRow base e size v n xs := by
  rcases h with ⟨hl, h | ⟨g, cap, cur, hv, hg, hh, hr⟩⟩
  · exact ⟨hl, Or.inl h⟩
  · exact ⟨hl, Or.inr ⟨g, cap, cur, hv, hg, (hb.block g (Array.getElem?_eq_some_iff.1 hh).1).trans hh, hr⟩⟩

theorem rel_next {w wr w8 : World} {root : Bool} {M n0 : Nat} {v : Value} {L0 : List Pr} {S : List En} (hcut : wr.ownsRow w.heap.size ( /- t -/ 181) 8 v n0 (L0.flatMap Pr.cells)) (hn0 : n0 = L0.length) (hmap : MapIs wr M (S.map En.ky))
    (hb : Below wr.heap.size wr w8) (hinv : Inv root L0 S) (hL : ∀ p, p ∈ L0 → p.Ok w) (hS : ∀ e, e ∈ S → e.Ok w) (hM : w.heap.size ≤ M) (hbw : Below w.heap.size w wr) (hn : wsum L0 ≤ 1048577) : RelS w root M (wsum L0) v w8 := by
  subst hn0
  exact ⟨L0, S, Nat.le_refl _, hn, row_below hcut hb, hmap.same (hb.block _ hmap.lt), hinv, hL, hS, hM, hbw.trans (hb.mono hbw.size)⟩

theorem Ow.head {w : World} {a : Option Addr} {n c : Nat} {f : F} {bs : List Nat} (h : Ow w (.slice a n c) f bs) (h0 : f.len ≠ 0) : ∃ b k cs, a = some ⟨b, 0, none⟩ ∧ Free w b k ∧ OwRow w b 0 f cs := by
  obtain ⟨a', cap, e, _, _, h⟩ := h
  simp only [Value.slice.injEq] at e
  obtain ⟨rfl, _, _⟩ := e
  rcases h with ⟨rfl, _⟩ | ⟨b, k, bs', e2, _, hf, _, hr⟩
  · exact absurd rfl h0
  · exact ⟨b, k, bs', e2, hf, hr⟩
theorem free_good {w : World} {b n : Nat} (h : Free w b n) : Good w b := by
  obtain ⟨cs, t, h, _⟩ := h
  exact ⟨cs, t, h⟩
theorem En.Ok.good {w w' : World} {e : En} (h : e.Ok w) (hb : Below w.heap.size w w') : e.ky.Good w' := by
  obtain ⟨⟨_, _, h1, _⟩, ⟨_, _, h2, _⟩, _⟩ := h
  exact ⟨(free_good h1).below hb, (free_good h2).below hb⟩
theorem len_zero {f : F} (h : f.len = 0) : f = .nil := by
  cases f with
  | nil => rfl
  | cons => simp [F.len] at h

theorem below_grown {B M : Nat} {a b c : World} (hB : B ≤ a.heap.size) (h : Below B a b) (hg : b.grownBy c (some M)) (hM : B ≤ M) : Below B a c :=
  ⟨hg.os.trans h.os, hg.tape.trans h.tape, hg.output.trans h.output, Nat.le_trans h.size hg.size, fun k hk => (hg.block k (Nat.lt_of_lt_of_le (Nat.lt_of_lt_of_le hk hB) h.size) (fun e => by cases e; omega)).trans (h.block k hk)⟩
theorem row_grown {b c : World} {base : Nat} {e : TypeId} {size : Nat} {v : Value} {n M : Nat} {xs : List Value} {S : List Ky} (h : b.ownsRow base e size v n xs) (hm : MapIs b M S) (hg : b.grownBy c (some M)) : c.ownsRow base e size v n xs := by
  obtain ⟨es, ck, hm, _⟩ := hm
  rcases h with ⟨hl, h | ⟨g, cap, cur, hv, hb, hh, hr⟩⟩
  · exact ⟨hl, Or.inl h⟩
  · have hne : g ≠ M := fun e => by rw [e, hm] at hh; cases hh
    exact ⟨hl, Or.inr ⟨g, cap, cur, hv, hb, (hg.block g (Array.getElem?_eq_some_iff.1 hh).1 (fun e => hne (by cases e; rfl))).trans hh, hr⟩⟩
theorem map_grown {b c : World} {base : Nat} {e : TypeId} {size : Nat} {v : Value} {n M : Nat} {xs : List Value} {S : List Ky} (h : b.ownsRow base e size v n xs) (hm : MapIs b M S) (hg : b.grownBy c v.ownBlock) : MapIs c M S := by
  refine hm.same (hg.block M hm.lt (fun e => ?_))
  obtain ⟨es, ck, hm, _⟩ := hm
  rcases h.2 with ⟨rfl, _⟩ | ⟨g, cap, cur, rfl, _, hh, _⟩
  · cases e
  · simp only [Value.ownBlock, Option.some.injEq] at e
    subst e
    rw [hm] at hh
    cases hh
theorem below_row {B : Nat} {a b c : World} {e : TypeId} {size : Nat} {v : Value} {n : Nat} {xs : List Value} (hB : B ≤ a.heap.size) (h : Below B a b) (hr : b.ownsRow B e size v n xs) (hg : b.grownBy c v.ownBlock) : Below B a c :=
  ⟨hg.os.trans h.os, hg.tape.trans h.tape, hg.output.trans h.output, Nat.le_trans h.size hg.size, fun k hk => (hg.block k (Nat.lt_of_lt_of_le (Nat.lt_of_lt_of_le hk hB) h.size) (fun e => by have := (hr.lt k e.symm).1; omega)).trans (h.block k hk)⟩
theorem mem_wsum {p : Pr} : ∀ {L : List Pr}, p ∈ L → p.f.sz + 1 ≤ wsum L
  | q :: L, h => by
    rcases List.mem_cons.1 h with rfl | h
    · simp only [wsum]; omega
    · have := mem_wsum h
      simp only [wsum]; omega

/-- What holds between two rounds over the branches of a pair. -/
def RelI (w0 : World) (M b1 b2 : Nat) (f1 f2 : F) (L0 : List Pr) (S : List En) (v iv : Value) (wr : World) : Prop :=
  ∃ (h h' : F) (j : Nat) (P : List Pr), j + h.len = f1.len ∧ iv = .int .i64 j ∧ h.len = h'.len ∧ h.sz + wsum P = f1.sz ∧ (∃ cs, OwRow w0 b1 (j * 5) h cs) ∧ (∃ cs, OwRow w0 b2 (j * 5) h' cs) ∧
    sameF f1 f2 = (P.all Pr.b && sameF h h') ∧ (∀ p, p ∈ P → p.Ok w0) ∧ wr.ownsRow w0.heap.size ( /- t -/ 181) 8 v (L0 ++ P).length ((L0 ++ P).flatMap Pr.cells) ∧ MapIs wr M (S.map En.ky) ∧ Below w0.heap.size w0 wr

theorem OwRow.head {w : World} {b o : Nat} {lab : ByteArray} {k : Int} {fr : ByteArray} {ix : Int} {kids rest : F} {bs : List Nat} (h : OwRow w b o (.cons lab k fr ix kids rest) bs) :
    ∃ v, w.cell? ⟨b, o, none⟩ = some (.string lab) ∧ w.cell? ⟨b, o + 1, none⟩ = some (.int .i64 k) ∧ w.cell? ⟨b, o + 2, none⟩ = some (.string fr) ∧
      w.cell? ⟨b, o + 3, none⟩ = some (.int .i64 ix) ∧ w.cell? ⟨b, o + 4, none⟩ = some v ∧ (∃ ks, Ow w v kids ks) ∧ ∃ rs, OwRow w b (o + 5) rest rs := by
  obtain ⟨_, _, _, _, c0, c1, c2, c3, ks, rs, _, ⟨a, cap, c5, h1, h2, h3⟩, hr⟩ := h
  exact ⟨_, c0, c1, c2, c3, c5, ⟨ks, a, cap, rfl, h1, h2, h3⟩, rs, hr⟩

theorem pairInfo : (Tryd.prog.info? ( /- t -/ 181)).map (fun i => (i.zero.map (fun z => z.cells.size), i.size, i.bytes)) = some (some 8, 8, 112) := by kernel_rfl

theorem pair_info : ∃ i z, Tryd.prog.info? ( /- t -/ 181) = some i ∧ i.zero = some z ∧ i.size = 8 ∧ i.bytes = 112 ∧ z.cells.size = 8 := by
  have h := pairInfo
  cases hi : Tryd.prog.info? ( /- t -/ 181) with
  | none => rw [hi] at h; cases h
  | some i =>
    rw [hi] at h
    simp only [Option.map_some, Option.some.injEq, Prod.mk.injEq] at h
    obtain ⟨h1, h2, h3⟩ := h
    cases hz : i.zero with
    | none => rw [hz] at h1; cases h1
    | some z =>
      rw [hz] at h1
      exact ⟨i, z, rfl, hz, h2, h3, by simpa using h1⟩
theorem len_le : ∀ f : F, f.len ≤ f.sz
  | .nil => Nat.le_refl _
  | .cons _ _ _ _ _ rest => by have := len_le rest; simp only [F.len, F.sz]; omega

theorem rel_step {w0 wr w12 w13 : World} {M b1 b2 j gg cp : Nat} {f1 f2 kids rest kids' rest' : F} {L0 P : List Pr} {S : List En} {v s1 s2 : Value} {o1 o2 : Obj}
    {lab fr3 lab' fr4 : ByteArray} {kd ix3 kd' ix4 : Int} (hK : j + 1 + rest.len = f1.len ∧ rest.len = rest'.len) (hlab : (lab.toList == lab'.toList) = true)
    (hX : (F.cons lab kd fr3 ix3 kids rest).sz + wsum P = f1.sz ∧ sameF f1 f2 = (P.all Pr.b && sameF (F.cons lab kd fr3 ix3 kids rest) (F.cons lab' kd' fr4 ix4 kids' rest')) ∧ (∀ p, p ∈ P → p.Ok w0) ∧
      wr.ownsRow w0.heap.size ( /- t -/ 181) 8 v (L0 ++ P).length ((L0 ++ P).flatMap Pr.cells) ∧ MapIs wr M (S.map En.ky) ∧ Below w0.heap.size w0 wr ∧ (∃ ks, Ow w0 s1 kids ks) ∧ (∃ ks, Ow w0 s2 kids' ks) ∧
      (∃ rs, OwRow w0 b1 (j * 5 + 5) rest rs) ∧ ∃ rs, OwRow w0 b2 (j * 5 + 5) rest' rs)
    (hb14 : Below wr.heap.size wr w12)
    (hown13 : w13.ownsRow w0.heap.size ( /- t -/ 181) 8 (.slice (some ⟨gg, 0, none⟩) ((L0 ++ P).length + 1) cp) ((L0 ++ P).length + 1) ((L0 ++ P).flatMap Pr.cells ++ Pr.cells ⟨kd, fr3, ix3, s1, kids, kd', fr4, ix4, s2, kids'⟩))
    (hgrow13 : ((w12.alloc o1).alloc o2).grownBy w13 v.ownBlock) (hbig : f1.sz ≤ 1048577) :
    RelI w0 M b1 b2 f1 f2 L0 S (.slice (some ⟨gg, 0, none⟩) (L0.length + P.length + 1) cp) (.int .i64 (wrap64 (j + 1))) w13 ∧ f1.len - (intOf (.int .i64 (wrap64 (j + 1)))).toNat < f1.len - (intOf (.int .i64 j)).toNat := by
  have hjb := len_le f1
  obtain ⟨hsz, hsame, hP, hown, hmap, hbw, hk1, hk2, ⟨rs1, hrr1⟩, rs2, hrr2⟩ := hX
  have hb15 := (hb14.alloc hb14.size o1).alloc (Nat.le_trans hb14.size (by simp)) o2
  have hown15 := row_below hown hb15
  have hmap15 : MapIs _ M _ := hmap.same (hb15.block _ hmap.lt)
  have hbw15 := hbw.trans (hb15.mono hbw.size)
  have hw : wrap64 ((j : Int) + 1) = ((j + 1 : Nat) : Int) := by
    unfold wrap64
    omega
  rw [hw]
  refine ⟨⟨rest, rest', j + 1, P ++ [⟨kd, fr3, ix3, s1, kids, kd', fr4, ix4, s2, kids'⟩], by omega, rfl, hK.2, ?_, ⟨rs1, by rw [Nat.add_mul]; exact hrr1⟩, ⟨rs2, by rw [Nat.add_mul]; exact hrr2⟩, ?_, fun p hp => ?_, ?_, map_grown hown15 hmap15 hgrow13, below_row (Nat.le_refl _) hbw15 hown15 hgrow13⟩, by simp [intOf]; omega⟩
  · rw [wsum_app]
    simp only [wsum, F.sz] at hsz ⊢
    omega
  · rw [hsame, List.all_append]
    simp only [sameF, hlab, List.all_cons, List.all_nil, Pr.b, sameN, Bool.true_and, Bool.and_true, Bool.and_assoc]
  · rcases List.mem_append.1 hp with hp | hp
    · exact hP p hp
    · simp at hp
      rw [hp]
      exact ⟨hk1, hk2⟩
  · have hlen : (L0 ++ (P ++ [(⟨kd, fr3, ix3, s1, kids, kd', fr4, ix4, s2, kids'⟩ : Pr)])).length = (L0 ++ P).length + 1 := by simp; omega
    rw [hlen, ← List.append_assoc, List.flatMap_append, List.length_append] at *
    simpa using hown13

end Go.Proofs.YtfppglfajbmapaaDoor.Lo

/- l2Count and LocalValid of the model over trees of any size, if what is valid is not too large. -/
namespace Go.Proofs.YtfppglfajbmapaaDoor.Lo
open Go.RowKit

def CntBigAt (M : Nat) (n : Nat) : Prop := ∀ (w : World) (k ix d : Int) (fr : ByteArray) (sv : Value) (kids : F), kids.sz < n → Sl w sv kids → kids.sz ≤ M → 0 ≤ d → d ≤ 40 →
  Calls Tryd.prog 55 #[.agg #[.int .i64 k, .string fr, .int .i64 ix, sv], .int .i64 d] w fun e w' => e = .returned (.int .i64 (cntN kids d : Nat)) ∧ Below w.heap.size w w'

set_option maxHeartbeats 800000 in
theorem cntBig_all (M : Nat) (hM : M ≤ 9000000000000000000) : ∀ n, CntBigAt M n := by
  intro n
  induction n with
  | zero => intro w k ix d fr sv kids hn; omega
  | succ n ih =>
    intro w k ix d fr sv kids hn hs hbig hd0 hd
    obtain ⟨a, cap, rfl, hlen, hat⟩ := hs.at
    have hb0 := alloc_below w (.cells #[.int .i64 k, .string fr, .int .i64 ix, .slice a kids.len cap] ( /- t -/ 35))
    obtain ⟨hc4, hsz⟩ := box4_now w (.int .i64 k) (.string fr) (.int .i64 ix) (.slice a kids.len cap) ( /- t -/ 35)
    have HA := hide (hat.still (Still.of_below hb0))
    unfold maxLen at hlen
    have HN := hide hn
    clear hs hat hn
    by_cases hd1 : 0 < d
    · go_enter Tryd.func55, Tryd.ntmps55
      go_wp2_with fail
      generalize (w.alloc (.cells #[.int .i64 k, .string fr, .int .i64 ix, .slice a kids.len cap] ( /- t -/ 35))) = W at *
      go_loopw [5, 6] (fun nv iv wr => ∃ (g : F) (k m : Nat), k + g.len = kids.len ∧ nv = .int .i64 m ∧ iv = .int .i64 k ∧ g.sz ≤ kids.sz ∧ At W a k g ∧ m + cntF g (d - 1) = 1 + cntF kids (d - 1) ∧ Below W.heap.size W wr) (fun _ iv _ => kids.len - (intOf iv).toNat)
      case atStart => exact ⟨kids, 0, 1, by omega, rfl, rfl, Nat.le_refl _, HA.out, rfl, Below.refl _ _⟩
      case round =>
        obtain ⟨g, k, m, hk, rfl, rfl, h5, hg, hv, hbw⟩ := hrel
        have e4 := (Still.of_below hbw) _ _ hc4
        have HVV := hide hv
        have HB := hide (hb0.trans (hbw.mono (Nat.le_of_lt hsz)))
        clear hv
        cases g with
        | nil =>
          have H5 : Hid (k = kids.len) := by unfold Hid; simpa [F.len] using hk
          have hge : kids.len ≤ k := Nat.le_of_eq H5.out.symm
          clear hk
          go_wp2_with fail
          go_ret
          refine ⟨ret_int ?_, HB.out⟩
          have := HVV.out
          unfold cntN
          rw [if_pos hd1]
          simp only [cntF] at this
          omega
        | cons lab kd fr' ix' kids' rest =>
          have HK : Hid (k + 1 + rest.len = kids.len) := by unfold Hid; simp only [F.len] at hk; omega
          have hlt : k < kids.len := by have := HK.out; omega
          have HZ : Hid (kids'.sz < n ∧ rest.sz ≤ kids.sz ∧ kids'.sz ≤ M) := by have := HN.out; unfold Hid; simp only [F.sz] at h5; omega
          have hm : m ≤ M + 1 := by have := HVV.out; have := cntF_le kids (d - 1); omega
          obtain ⟨b', o, rfl, _, _, _, _, q0, q1, q2, q3, ⟨sv', q4, hsv⟩, _⟩ := (hg.still (Still.of_below hbw)).head
          have HS := hide hsv
          have HG := hide hg
          clear hk h5 hg hsv
          go_wp2_with fail
          refine (ih wr kd ix' (d - 1) fr' sv' kids' HZ.out.1 HS.out HZ.out.2.2 (by omega) (by omega)).mono ?_
          rintro e w3 ⟨rfl, hb5⟩
          have hb7 := hbw.trans (hb5.mono hbw.size)
          clear hb5
          generalize hcn : cntN kids' (d - 1) = c at *
          have HC := hide hcn
          have hc : c ≤ M + 1 := by
            have h1 := HZ.out.2.2
            have h2 := cntF_le kids' (d - 1 - 1)
            rw [← hcn]
            unfold cntN
            split <;> omega
          have hmc : m + c ≤ M + 1 := by
            have h1 := HVV.out
            have h2 := cntF_le kids (d - 1)
            simp only [cntF] at h1
            unfold cntN at hcn
            omega
          clear hcn
          go_wp2_with fail
          refine ⟨⟨rest, k + 1, m + c, by have := HK.out; omega, by go_num, by go_num, HZ.out.2.1, HG.out.tail, ?_, hb7⟩, by simp [intOf]; omega⟩
          have h1 := HVV.out
          have h2 := HC.out
          simp only [cntF] at h1
          unfold cntN at h2
          omega
    · obtain rfl : d = 0 := by omega
      go_enter Tryd.func55, Tryd.ntmps55
      go_wp2_with fail
      generalize (w.alloc (.cells #[.int .i64 k, .string fr, .int .i64 ix, .slice a kids.len cap] ( /- t -/ 35))) = W at *
      go_loopw [5, 6] (fun nv iv wr => nv = .int .i64 1 ∧ iv = .int .i64 0 ∧ wr = W) (fun _ iv _ => kids.len - (intOf iv).toNat)
      case atStart => exact ⟨rfl, rfl, rfl⟩
      case round =>
        obtain ⟨rfl, rfl, rfl⟩ := hrel
        go_wp2_with fail
        all_goals go_ret
        all_goals exact ⟨rfl, hb0⟩

/-- l2Count of the model. -/
theorem cntBig_calls (M : Nat) (hM : M ≤ 9000000000000000000) (w : World) (k ix d : Int) (fr : ByteArray) (sv : Value) (kids : F) (hs : Sl w sv kids) (hbig : kids.sz ≤ M) (hd0 : 0 ≤ d) (hd : d ≤ 40) :
    Calls Tryd.prog 55 #[.agg #[.int .i64 k, .string fr, .int .i64 ix, sv], .int .i64 d] w fun e w' => e = .returned (.int .i64 (cntN kids d : Nat)) ∧ Below w.heap.size w w' :=
  cntBig_all M hM (kids.sz + 1) w k ix d fr sv kids (Nat.lt_succ_self _) hs hbig hd0 hd

set_option maxHeartbeats 400000 in
/-- LocalValid of the model, whatever the size, if it is bounded where the tree is valid. -/
theorem specValidBig (w : World) (k ix : Int) (fr : ByteArray) (sv : Value) (kids : F) (hs : Sl w sv kids) (hbig : vldN k fr ix kids 0 0 40 = true → kids.sz ≤ 160000000000000000) :
    Calls Tryd.prog 20 #[.agg #[.int .i64 k, .string fr, .int .i64 ix, sv]] w fun e w' => e = .returned (.bool (okN k fr ix kids)) ∧ Below w.heap.size w w' := by
  have HS := hide hs
  have HBIG := hide hbig
  clear hs hbig
  go_enter Tryd.func20, Tryd.ntmps20
  go_wp2_with fail
  refine (vld_calls _ k ix 0 0 40 fr sv kids (HS.out.still (Still.of_below (alloc_below _ _))) (by omega) (by omega) (by omega) (by omega) (by omega)).mono ?_
  rintro e w1 ⟨rfl, hb⟩
  have BX := (Box4.now w (.int .i64 k) (.string fr) (.int .i64 ix) sv ( /- t -/ 35)).below hb
  obtain ⟨c0, c1, c2, c3⟩ := BX.cells
  have hlt := BX.lt
  have hb2 := alloc_then hb
  clear BX
  clear hb
  cases hv : vldN k fr ix kids 0 0 40 with
  | false =>
    go_wp2_with fail
    go_ret
    exact ⟨ret_bool (by simp [okN, hv]), hb2⟩
  | true =>
    have HV := hide hv
    clear hv
    go_wp2_with fail
    refine (cntBig_calls 160000000000000000 (by omega) _ k ix 40 fr sv kids (HS.out.still (Still.of_below hb2)) (HBIG.out HV.out) (by omega) (by omega)).mono ?_
    rintro e w2 ⟨rfl, hb3⟩
    have hb4 := hb2.trans (hb3.mono hb2.size)
    rw [cntN_of_vld HV.out]
    clear hb3
    go_wp2_with fail
    go_ret
    refine ⟨ret_bool ?_, hb4⟩
    unfold okN
    rw [HV.out, Bool.true_and]
    show decide _ = _
    exact decide_eq_decide.2 (by omega)

end Go.Proofs.YtfppglfajbmapaaDoor.Lo
