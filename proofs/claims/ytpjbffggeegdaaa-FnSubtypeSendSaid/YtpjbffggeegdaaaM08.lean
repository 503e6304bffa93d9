/- Po, Pq, LSc, LFt, LFm, Pr, LDl, LEo, LSb, LUy, LUz, LKe, LKn, LJa -/
import Derived.Test.YtpjbffggeegdaaaM06
import Derived.Test.YtpjbffggeegdaaaM07
import Derived.Test.YtpjbffggeegdaaaM09
import Derived.Test.YtpjbffggeegdaaaM00
import Derived.Test.YtpjbffggeegdaaaM02
import Derived.RegionTactic
import Derived.Deep.RegionHeld3
import Derived.Test.YtpjbffggeegdaaaM05
/- l2ParseAction of the model. -/
namespace Go.Proofs.Ytpjbffggeegdaaa.Lo.Ne
open Go.RowKit

theorem sp_action (d : Nat) (hd : d ≤ 40) (ih : SpAt d) (w : World) (T : List UInt8) (p : Nat) (hT : T.length ≤ 1048576) (hp : p + 2 < T.length) (R : Option (F × List UInt8)) (hR : R = spB (sp d) 5 (T.drop (p + 2)) .nil) (r : Option (Nd × List UInt8))
    (hr : r = R.map (fun q => (⟨if hdC (T.drop (p + 1)) = 33 then 2 else 3, ⟨#[hdC (T.drop p)]⟩, 0, q.1⟩, q.2))) :
    Calls Try.prog 49 #[.string (bs T), .int .i64 (p : Nat), .int .i64 ((d + 1 : Nat) : Int)] w (SpPost T r w) := by
  by_cases h33 : hdC (T.drop (p + 1)) = 33
  · exact sp_send d hd ih w T p hT hp R hR r h33 (by rw [hr, if_pos h33])
  · exact sp_recv d hd ih w T p hT hp R hR r h33 (by rw [hr, if_neg h33])
end Go.Proofs.Ytpjbffggeegdaaa.Lo.Ne

/- l2Parse of the model: an action; every depth; how large what it reads is. -/
namespace Go.Proofs.Ytpjbffggeegdaaa.Lo.Ne
open Go.RowKit

set_option maxHeartbeats 1600000 in
set_option maxRecDepth 100000 in
theorem sp_act (d : Nat) (hd : d ≤ 40) (ih : SpAt d) (w : World) (T : List UInt8) (p : Nat) (hT : T.length ≤ 1048576) (hp : p + 2 < T.length) (h46 : hdC (T.drop p) ≠ 46) (h35 : hdC (T.drop p) ≠ 35) (h64 : hdC (T.drop p) ≠ 64) (h123 : hdC (T.drop (p + 2)) = 123) :
    Calls Try.prog 42 #[.string (bs T), .int .i64 (p : Nat), .int .i64 ((d + 1 : Nat) : Int)] w (SpPost T (sp (d + 1) (T.drop p)) w) := by
  have hsz : (bs T).size = T.length := bs_size T
  obtain ⟨hin, hget, hdr⟩ := head_at (show p < T.length by omega)
  obtain ⟨hin2, hget2, hdr2⟩ := head_at hp
  obtain ⟨r, hr⟩ : ∃ r, r = (spB (sp d) 5 (T.drop (p + 2)) .nil).map (fun q => ((⟨if hdC (T.drop (p + 1)) = 33 then 2 else 3, ⟨#[hdC (T.drop p)]⟩, 0, q.1⟩ : Nd), q.2)) := ⟨_, rfl⟩
  have HIH := hide (fun (W : World) => sp_action d hd ih W T p hT hp _ rfl r hr)
  have HR : sp (d + 1) (T.drop p) = r := by
    rw [hr]
    generalize hc : hdC (T.drop p) = c at *
    rw [sp, hdr, if_neg (by simpa [nxC] using h46), if_neg (fun h => by simp [nxC] at h; exact h35 h.1), if_neg (by simpa [nxC] using h64)]
    rw [show (c :: T.drop (p + 1)).tail.tail = T.drop (p + 2) by simp [List.tail_drop], if_pos (by rw [hdr2, h123]; rfl)]
    cases spB (sp d) 5 (T.drop (p + 2)) .nil <;> rfl
  rw [HR]
  have hlt : (p : Int) < (T.length : Int) := by omega
  have hlt2 : (p : Int) + 2 < (T.length : Int) := by omega
  have h1 : ¬ ((d + 1 : Nat) : Int) < 1 := by omega
  have hcb : (((bs T)[p]'hin).toNat : Int) ≠ 46 := by rw [hget]; exact fun h => h46 (UInt8.toNat_inj.1 (by show _ = 46; omega))
  have hcd : (((bs T)[p]'hin).toNat : Int) ≠ 64 := by rw [hget]; exact fun h => h64 (UInt8.toNat_inj.1 (by show _ = 64; omega))
  have hce : (((bs T)[p]'hin).toNat : Int) ≠ 35 := by rw [hget]; exact fun h => h35 (UInt8.toNat_inj.1 (by show _ = 35; omega))
  have hcf : (((bs T)[p + 2]'hin2).toNat : Int) = 123 := by rw [hget2, h123]; rfl
  clear hget hget2 hdr hdr2 h46 h35 h64 h123 ih hr HR
  go_enter Try.func42, Try.ntmps42
  go_wp2_with fail
  have hx := Box4.now w (.int .i64 0) (.string ⟨#[]⟩) (.int .i64 0) (.slice none 0 0) ( /- t -/ 25)
  have hb1 := alloc_below w (.cells #[.int .i64 0, .string ⟨#[]⟩, .int .i64 0, .slice none 0 0] ( /- t -/ 25))
  have hw1 : w.heap.size < (w.alloc (.cells #[.int .i64 0, .string ⟨#[]⟩, .int .i64 0, .slice none 0 0] ( /- t -/ 25))).heap.size := by simp
  generalize w.alloc (.cells #[.int .i64 0, .string ⟨#[]⟩, .int .i64 0, .slice none 0 0] ( /- t -/ 25)) = W at *
  refine (HIH.out W).mono ?_
  intro e w4 hp4
  have HX4 := hide (hx.below hp4.1)
  obtain ⟨y0, y1, y2, y3⟩ := HX4.out.cells
  have hf := box4_frozen HX4.out
  have hl := HX4.out.lt
  have HB4 := hide (hb1.trans (hp4.1.mono hb1.size))
  have hs4 := hp4.1.size
  clear hx hb1
  cases hrr : r with
  | none =>
    obtain ⟨k, fr, ix, a, m, cp, rfl⟩ := hp4.2.2 hrr
    clear hp4
    go_wp2_with fail
    refine bodyPost_ret (v := .tuple #[.agg #[.int .i64 k, .string fr, .int .i64 ix, .slice a m cp], .int .i64 (-1)]) (by simp [results, Try.results42, go_sem, *]) rfl ?_
    exact sp_not hrr (below_set4 HB4.out (Nat.le_refl _) _ _ _ _)
  | some qq =>
    obtain ⟨N, t⟩ := qq
    obtain ⟨q, u, bs2, hq, ht, rfl, how, hge, hnd⟩ := hp4.2.1 N t hrr
    have HOW := hide how
    have HGE := hide hge
    obtain ⟨ua, uc, rfl⟩ := how.val
    clear hp4 how hge
    go_wp2_with fail
    refine bodyPost_ret (v := .tuple #[.agg #[.int .i64 N.k, .string N.fr, .int .i64 N.ix, .slice ua N.kids.len uc], .int .i64 (q : Nat)]) (by simp [results, Try.results42, go_sem, *]) rfl ?_
    exact sp_yes hrr hq ht (below_set4 HB4.out (Nat.le_refl _) _ _ _ _) (ow_set4 HOW.out (fun x hx => by have := HGE.out x hx; omega) _ _ _ _) (fun x hx => by have := HGE.out x hx; omega) hnd

theorem sp_every : ∀ d, d ≤ 40 → SpAt d := by
  intro d
  induction d with
  | zero => exact fun _ w T p _ _ => sp_out 0 (by omega) w T p (Or.inl rfl)
  | succ d ih =>
    intro hd w T p hT hpl
    have ih := ih (by omega)
    by_cases hpe : p = T.length
    · exact sp_out (d + 1) hd w T p (Or.inr hpe)
    have hp : p < T.length := by omega
    by_cases h46 : hdC (T.drop p) = 46
    · exact sp_dot d (by omega) w T p hT hp h46
    by_cases h35 : hdC (T.drop p) = 35 ∧ p + 1 < T.length
    · exact sp_hash d (by omega) w T p hT h35.2 h35.1
    by_cases h64 : hdC (T.drop p) = 64
    · exact sp_at d (by omega) ih w T p hT hp h64
    by_cases h123 : p + 2 < T.length ∧ hdC (T.drop (p + 2)) = 123
    · exact sp_act d (by omega) ih w T p hT h123.1 h46 (fun h => h35 ⟨h, by omega⟩) h64 h123.2
    · refine sp_other d (by omega) w T p hT hp h46 (fun h => Nat.le_of_not_lt (fun k => h35 ⟨h, k⟩)) h64 ?_
      by_cases h2 : p + 2 < T.length
      · obtain ⟨-, -, hdr⟩ := head_at h2
        have hne : ¬ hdC (T.drop (p + 2)) = 123 := fun h => h123 ⟨h2, h⟩
        generalize hdC (T.drop (p + 2)) = c at *
        rw [hdr]
        simpa [nxC] using hne
      · rw [List.drop_eq_nil_of_le (by omega)]
        rfl

theorem spB_sz (g : List UInt8 → Option (Nd × List UInt8)) (hg : ∀ s N t, g s = some (N, t) → N.kids.sz + 1 + t.length ≤ s.length) : ∀ (j : Nat) (s : List UInt8) (acc f : F) (t : List UInt8), spB g j s acc = some (f, t) → f.sz + t.length ≤ acc.sz + s.length := by
  have hex : ∀ (s : List UInt8) (acc f : F) (t : List UInt8), exB s acc = some (f, t) → f.sz + t.length ≤ acc.sz + s.length := by
    intro s acc f t h
    unfold exB at h
    split at h
    · injection h with h
      injection h with h1 h2
      subst h1 h2
      simp
    · cases h
  intro j
  induction j with
  | zero => exact fun s acc f t h => hex s acc f t h
  | succ j ih =>
    intro s acc f t h
    rw [spB] at h
    split at h
    · rename_i hgo
      cases hr : g s.tail.tail with
      | none => rw [hr] at h; cases h
      | some q =>
        obtain ⟨N, t1⟩ := q
        rw [hr] at h
        have h1 := ih _ _ _ _ h
        have h2 := hg _ _ _ hr
        rw [F.sz_app] at h1
        simp only [brn, F.sz] at h1
        have h3 : s.tail.tail.length ≤ s.length := by simp only [List.length_tail]; omega
        omega
    · exact hex s acc f t h
theorem sp_sz : ∀ d s N t, sp d s = some (N, t) → N.kids.sz + 1 + t.length ≤ s.length := by
  intro d
  induction d with
  | zero => intro s N t h; cases h
  | succ d ih =>
    intro s N t h
    rw [sp] at h
    split at h
    · rename_i h46
      injection h with h
      injection h with h1 h2
      subst h1 h2
      have := nx_len h46
      show 0 + 1 + s.tail.length ≤ s.length
      omega
    split at h
    · rename_i h35
      injection h with h
      injection h with h1 h2
      subst h1 h2
      simp only [Bool.and_eq_true] at h35
      have e1 := nx_len h35.1
      have e2 : s.tail.tail.length ≤ s.tail.length := by simp only [List.length_tail]; omega
      show 0 + 1 + s.tail.tail.length ≤ s.length
      omega
    split at h
    · rename_i h64
      cases hr : sp d s.tail with
      | none => rw [hr] at h; cases h
      | some q =>
        obtain ⟨M, t'⟩ := q
        rw [hr] at h
        simp only [Option.some.injEq, Prod.mk.injEq] at h
        obtain ⟨rfl, rfl⟩ := h
        have e1 := nx_len h64
        have e2 := ih _ _ _ hr
        simp only [ndRec, F.sz]
        omega
    split at h
    · rename_i h123
      cases hr : spB (sp d) 5 s.tail.tail .nil with
      | none => rw [hr] at h; cases h
      | some q =>
        obtain ⟨f, t'⟩ := q
        rw [hr] at h
        simp only [Option.some.injEq, Prod.mk.injEq] at h
        obtain ⟨rfl, rfl⟩ := h
        have e1 := spB_sz (sp d) ih _ _ _ _ _ hr
        have e2 : s.tail.tail.length + 2 ≤ s.length := by
          cases s with
          | nil => cases h123
          | cons a s => cases s with
            | nil => cases h123
            | cons b s => simp
        simp only [F.sz] at e1 ⊢
        omega
    · cases h
theorem resLM (s : List UInt8) : resL s = resM s := by
  cases hl : resL s with
  | some N => exact ((resM_iff s N).2 ((resL_iff s N).1 hl)).symm
  | none =>
    cases hm : resM s with
    | none => rfl
    | some N =>
      rw [(resL_iff s N).2 ((resM_iff s N).1 hm)] at hl
      cases hl
end Go.Proofs.Ytpjbffggeegdaaa.Lo.Ne

/- l2Count and LocalValid of the model. -/
namespace Go.Proofs.Ytpjbffggeegdaaa.Lo
open Go.RowKit

def CntAt (n : Nat) : Prop := ∀ (w : World) (k ix d : Int) (fr : ByteArray) (sv : Value) (kids : F), kids.sz < n → Sl w sv kids → kids.sz ≤ 1048576 → 0 ≤ d → d ≤ 40 →
  Calls Try.prog 26 #[.agg #[.int .i64 k, .string fr, .int .i64 ix, sv], .int .i64 d] w fun e w' => e = .returned (.int .i64 (cntN kids d : Nat)) ∧ Below w.heap.size w w'

theorem box4_now (w : World) (v0 v1 v2 v3 : Value) (t : TypeId) : (w.alloc (.cells #[v0, v1, v2, v3] t)).cell? ⟨w.heap.size, 3, none⟩ = some v3 ∧ w.heap.size < (w.alloc (.cells #[v0, v1, v2, v3] t)).heap.size :=
  ⟨(Box4.now w v0 v1 v2 v3 t).cells.2.2.2, (Box4.now w v0 v1 v2 v3 t).lt⟩

set_option maxHeartbeats 800000 in
theorem cnt_all : ∀ n, CntAt n := by
  intro n
  induction n with
  | zero => intro w k ix d fr sv kids hn; omega
  | succ n ih =>
    intro w k ix d fr sv kids hn hs hbig hd0 hd
    obtain ⟨a, cap, rfl, hlen, hat⟩ := hs.at
    have hb0 := alloc_below w (.cells #[.int .i64 k, .string fr, .int .i64 ix, .slice a kids.len cap] ( /- t -/ 25))
    obtain ⟨hc4, hsz⟩ := box4_now w (.int .i64 k) (.string fr) (.int .i64 ix) (.slice a kids.len cap) ( /- t -/ 25)
    have HA := hide (hat.still (Still.of_below hb0))
    unfold maxLen at hlen
    have HN := hide hn
    clear hs hat hn
    by_cases hd1 : 0 < d
    · go_enter Try.func26, Try.ntmps26
      go_wp2_with fail
      generalize (w.alloc (.cells #[.int .i64 k, .string fr, .int .i64 ix, .slice a kids.len cap] ( /- t -/ 25))) = W at *
      go_loopw [5, 6] (fun nv iv wr => ∃ (g : F) (k m : Nat), k + g.len = kids.len ∧ nv = .int .i64 m ∧ iv = .int .i64 k ∧ g.sz ≤ kids.sz ∧ At W a k g ∧ m + cntF g (d - 1) = 1 + cntF kids (d - 1) ∧ Below W.heap.size W wr) (fun _ iv _ => kids.len - (intOf iv).toNat)
      case atStart => exact ⟨kids, 0, 1, by omega, rfl, rfl, Nat.le_refl _, HA.out, rfl, Below.refl _ _⟩
      case round =>
        obtain ⟨g, k, m, hk, rfl, rfl, h5, hg, hv, hbw⟩ := hrel
        have e4 := (Still.of_below hbw) _ _ hc4
        have HVV := hide hv
        have HB := hide (hb0.trans (hbw.mono (Nat.le_of_lt hsz)))
        clear hv
        cases g with
        | nil =>
          have H5 : Hid (k = kids.len) := by unfold Hid; simpa [F.len] using hk
          have hge : kids.len ≤ k := Nat.le_of_eq H5.out.symm
          clear hk
          go_wp2_with fail
          go_ret
          refine ⟨ret_int ?_, HB.out⟩
          have := HVV.out
          unfold cntN
          rw [if_pos hd1]
          simp only [cntF] at this
          omega
        | cons lab kd fr' ix' kids' rest =>
          have HK : Hid (k + 1 + rest.len = kids.len) := by unfold Hid; simp only [F.len] at hk; omega
          have hlt : k < kids.len := by have := HK.out; omega
          have HZ : Hid (kids'.sz < n ∧ rest.sz ≤ kids.sz ∧ kids'.sz ≤ 1048576) := by have := HN.out; unfold Hid; simp only [F.sz] at h5; omega
          have hm : m ≤ 1048577 := by have := HVV.out; have := cntF_le kids (d - 1); omega
          obtain ⟨b', o, rfl, _, _, _, _, q0, q1, q2, q3, ⟨sv', q4, hsv⟩, _⟩ := (hg.still (Still.of_below hbw)).head
          have HS := hide hsv
          have HG := hide hg
          clear hk h5 hg hsv
          go_wp2_with fail
          refine (ih wr kd ix' (d - 1) fr' sv' kids' HZ.out.1 HS.out HZ.out.2.2 (by omega) (by omega)).mono ?_
          rintro e w3 ⟨rfl, hb5⟩
          have hb7 := hbw.trans (hb5.mono hbw.size)
          clear hb5
          generalize hcn : cntN kids' (d - 1) = c at *
          have HC := hide hcn
          have hc : c ≤ 1048577 := by
            have h1 := HZ.out.2.2
            have h2 := cntF_le kids' (d - 1 - 1)
            rw [← hcn]
            unfold cntN
            split <;> omega
          clear hcn
          go_wp2_with fail
          refine ⟨⟨rest, k + 1, m + c, by have := HK.out; omega, by go_num, by go_num, HZ.out.2.1, HG.out.tail, ?_, hb7⟩, by simp [intOf]; omega⟩
          have h1 := HVV.out
          have h2 := HC.out
          simp only [cntF] at h1
          unfold cntN at h2
          omega
    · obtain rfl : d = 0 := by omega
      go_enter Try.func26, Try.ntmps26
      go_wp2_with fail
      generalize (w.alloc (.cells #[.int .i64 k, .string fr, .int .i64 ix, .slice a kids.len cap] ( /- t -/ 25))) = W at *
      go_loopw [5, 6] (fun nv iv wr => nv = .int .i64 1 ∧ iv = .int .i64 0 ∧ wr = W) (fun _ iv _ => kids.len - (intOf iv).toNat)
      case atStart => exact ⟨rfl, rfl, rfl⟩
      case round =>
        obtain ⟨rfl, rfl, rfl⟩ := hrel
        go_wp2_with fail
        all_goals go_ret
        all_goals exact ⟨rfl, hb0⟩

/-- l2Count of the model. -/
theorem cnt_calls (w : World) (k ix d : Int) (fr : ByteArray) (sv : Value) (kids : F) (hs : Sl w sv kids) (hbig : kids.sz ≤ 1048576) (hd0 : 0 ≤ d) (hd : d ≤ 40) :
    Calls Try.prog 26 #[.agg #[.int .i64 k, .string fr, .int .i64 ix, sv], .int .i64 d] w fun e w' => e = .returned (.int .i64 (cntN kids d : Nat)) ∧ Below w.heap.size w w' :=
  cnt_all (kids.sz + 1) w k ix d fr sv kids (Nat.lt_succ_self _) hs hbig hd0 hd

set_option maxHeartbeats 400000 in
/-- LocalValid of the model. -/
theorem specValid (w : World) (k ix : Int) (fr : ByteArray) (sv : Value) (kids : F) (hs : Sl w sv kids) (hbig : kids.sz ≤ 1048576) :
    Calls Try.prog 14 #[.agg #[.int .i64 k, .string fr, .int .i64 ix, sv]] w fun e w' => e = .returned (.bool (okN k fr ix kids)) ∧ Below w.heap.size w w' := by
  have HS := hide hs
  clear hs
  go_enter Try.func14, Try.ntmps14
  go_wp2_with fail
  refine (vld_calls _ k ix 0 0 40 fr sv kids (HS.out.still (Still.of_below (alloc_below _ _))) (by omega) (by omega) (by omega) (by omega) (by omega)).mono ?_
  rintro e w1 ⟨rfl, hb⟩
  have BX := (Box4.now w (.int .i64 k) (.string fr) (.int .i64 ix) sv ( /- t -/ 25)).below hb
  obtain ⟨c0, c1, c2, c3⟩ := BX.cells
  have hlt := BX.lt
  have hb2 := alloc_then hb
  clear BX
  clear hb
  cases hv : vldN k fr ix kids 0 0 40 with
  | false =>
    go_wp2_with fail
    go_ret
    exact ⟨ret_bool (by simp [okN, hv]), hb2⟩
  | true =>
    have HV := hide hv
    clear hv
    go_wp2_with fail
    refine (cnt_calls _ k ix 40 fr sv kids (HS.out.still (Still.of_below hb2)) hbig (by omega) (by omega)).mono ?_
    rintro e w2 ⟨rfl, hb3⟩
    have hb4 := hb2.trans (hb3.mono hb2.size)
    rw [cntN_of_vld HV.out]
    clear hb3
    go_wp2_with fail
    go_ret
    refine ⟨ret_bool ?_, hb4⟩
    unfold okN
    rw [HV.out, Bool.true_and]
    show decide _ = _
    exact decide_eq_decide.2 (by omega)

end Go.Proofs.Ytpjbffggeegdaaa.Lo

/- l2Format of the model. -/
namespace Go.Proofs.Ytpjbffggeegdaaa.Lo
open Go.RowKit

def FmtAt (n : Nat) : Prop := ∀ (w : World) (k ix b u d : Int) (fr : ByteArray) (sv : Value) (kids : F), kids.sz < n → kids.sz ≤ 400 → Sl w sv kids → 0 ≤ b → 0 ≤ u → b + d ≤ 40 → vldN k fr ix kids b u d = true →
  Calls Try.prog 50 #[.agg #[.int .i64 k, .string fr, .int .i64 ix, sv]] w fun e w' => e = .returned (.string (txN k fr ix kids)) ∧ Below w.heap.size w w'

set_option maxHeartbeats 400000 in
set_option maxRecDepth 100000 in
theorem fmt_end (w : World) (ix : Int) (fr : ByteArray) (sv : Value) (kids : F) (hs : Sl w sv kids) :
    Calls Try.prog 50 #[.agg #[.int .i64 1, .string fr, .int .i64 ix, sv]] w fun e w' => e = .returned (.string (txN 1 fr ix kids)) ∧ Below w.heap.size w w' := by
  obtain ⟨a, cap, rfl, -, -⟩ := hs.at
  clear hs
  go_enter Try.func50, Try.ntmps50
  go_wp2_with fail
  go_ret
  exact ⟨rfl, alloc_below _ _⟩

set_option maxHeartbeats 400000 in
set_option maxRecDepth 100000 in
theorem fmt_var (w : World) (ix : Int) (fr : ByteArray) (sv : Value) (kids : F) (hs : Sl w sv kids) (h0 : 0 ≤ ix) (h1 : ix < 40) :
    Calls Try.prog 50 #[.agg #[.int .i64 5, .string fr, .int .i64 ix, sv]] w fun e w' => e = .returned (.string (txN 5 fr ix kids)) ∧ Below w.heap.size w w' := by
  obtain ⟨a, cap, rfl, -, -⟩ := hs.at
  obtain ⟨i, rfl⟩ := Int.eq_ofNat_of_zero_le h0
  have h2 : (bdec i).size ≤ 2 := by
    have := decDigits_small (i := i) (by omega)
    simpa [bdec, ByteArray.size] using this
  clear hs
  go_enter Try.func50, Try.ntmps50
  go_wp2_with fail
  refine (dec_calls i (by omega) _).mono ?_
  rintro e w1 ⟨rfl, hb⟩
  change (bdec i).size ≤ 2 at h2
  have e1 : (⟨(Lib.decDigits i).toArray⟩ : ByteArray) = bdec i := rfl
  rw [e1]
  go_wp2_with fail
  go_ret
  exact ⟨rfl, (alloc_below _ _).trans (hb.mono (by simp))⟩

set_option maxHeartbeats 800000 in
set_option maxRecDepth 100000 in
theorem fmt_rec (n : Nat) (ih : FmtAt n) (w : World) (ix b u d : Int) (fr : ByteArray) (sv : Value) (kids : F) (hn : kids.sz < n + 1) (hbig : kids.sz ≤ 400) (hs : Sl w sv kids) (hb : 0 ≤ b) (hu : 0 ≤ u) (hbd : b + d ≤ 40)
    (hsh : shapeB 4 fr ix kids = true) (hv : vldF kids (b + 1) (u + 1) (d - 1) = true) :
    Calls Try.prog 50 #[.agg #[.int .i64 4, .string fr, .int .i64 ix, sv]] w fun e w' => e = .returned (.string (txN 4 fr ix kids)) ∧ Below w.heap.size w w' := by
  obtain ⟨e1, rfl, lab, k', fr', ix', kids', rfl, e3⟩ := shape_rec hsh
  have hvn : vldN k' fr' ix' kids' (b + 1) (u + 1) (d - 1) = true := by
    simp only [vldF, Bool.and_true] at hv
    exact hv
  have hsz := txN_size (by omega) (by omega) (by omega) hvn
  have hsz2 : (txN k' fr' ix' kids').size ≤ 3000 := by simp only [F.sz] at hbig; omega
  obtain ⟨a, cap, rfl, -, hat⟩ := hs.at
  obtain ⟨b', o', rfl, -, -, -, -, d0, d1, d2, d3, ⟨sv', d4, hsv⟩, -⟩ := hat.head
  have hbw := World.block_lt_of_cell? _ _ d0
  simp only [Nat.zero_mul, Nat.add_zero] at d0 d1 d2 d3 d4
  have HSV := hide hsv
  have HV := hide hvn
  have HN := hide hn
  have HB := hide hbig
  clear hs hsh hat hn hbig e1 e3 hsv hv hvn hsz
  change Calls Try.prog 50 #[.agg #[.int .i64 4, .string fr, .int .i64 0, .slice (some ⟨b', o', none⟩) 1 cap]] w _
  go_enter Try.func50, Try.ntmps50
  go_wp2_with fail
  refine (ih _ k' ix' (b + 1) (u + 1) (d - 1) fr' _ kids' (by have := HN.out; simp only [F.sz] at this; omega) (by have := HB.out; simp only [F.sz] at this; omega) (HSV.out.still (Still.of_below (alloc_below _ _))) (by omega) (by omega) (by omega) HV.out).mono ?_
  rintro e w1 ⟨rfl, hb⟩
  go_wp2_with fail
  go_ret
  exact ⟨rfl, (alloc_below _ _).trans (hb.mono (by simp))⟩
end Go.Proofs.Ytpjbffggeegdaaa.Lo

/- l2Format of the model: messages; FormatLocal of the model. -/
namespace Go.Proofs.Ytpjbffggeegdaaa.Lo
open Go.RowKit

set_option maxHeartbeats 800000 in
set_option maxRecDepth 100000 in
theorem fmt_act2 (n : Nat) (ih : FmtAt n) (w : World) (ix b u d : Int) (fr : ByteArray) (sv : Value) (kids : F) (hn : kids.sz < n + 1) (hbig : kids.sz ≤ 400) (hs : Sl w sv kids) (hb : 0 ≤ b) (hu : 0 ≤ u) (hbd : b + d ≤ 40)
    (hall : vldN 2 fr ix kids b u d = true) (hsh : shapeB 2 fr ix kids = true) (hv : vldF kids b 0 (d - 1) = true) :
    Calls Try.prog 50 #[.agg #[.int .i64 2, .string fr, .int .i64 ix, sv]] w fun e w' => e = .returned (.string (txN 2 fr ix kids)) ∧ Below w.heap.size w w' := by
  have htot := txN_size hb hu hbd hall
  have htx : fr ++ mark 2 ++ txF kids .first ++ bclose = txN 2 fr ix kids := rfl
  obtain ⟨e1, rfl, e5⟩ := shape_act (Or.inl rfl) hsh
  have hfr : fr.size = 1 := role_size e1
  obtain ⟨a, cap, rfl, hlen, hat⟩ := hs.at
  unfold maxLen at hlen
  have hb0 := alloc_below w (.cells #[.int .i64 2, .string fr, .int .i64 0, .slice a kids.len cap] ( /- t -/ 25))
  obtain ⟨hc4, hsz⟩ := box4_now w (.int .i64 2) (.string fr) (.int .i64 0) (.slice a kids.len cap) ( /- t -/ 25)
  have HA := hide (hat.still (Still.of_below hb0))
  have HN := hide hn
  have HT := hide htot
  have HX := hide htx
  have HV := hide hv
  have HG := hide hbig
  clear hs hsh hat hn htot htx hall hv e1 e5 hbig
  go_enter Try.func50, Try.ntmps50
  go_wp2_with fail
  generalize (w.alloc (.cells #[.int .i64 2, .string fr, .int .i64 0, .slice a kids.len cap] ( /- t -/ 25))) = W at *
  go_loopw [3, 4, 5] (fun ov iv _ wr => ∃ (g : F) (s : ByteArray) (k : Nat), k + g.len = kids.len ∧ ov = .string s ∧ iv = .int .i64 k ∧ g.sz ≤ kids.sz ∧ At W a k g ∧ vldF g b 0 (d - 1) = true ∧ s ++ txF g (md k) ++ bclose = txN 2 fr 0 kids ∧ Below W.heap.size W wr) (fun _ iv _ _ => kids.len - (intOf iv).toNat)
  case atStart => exact ⟨kids, fr ++ mark 2, 0, by omega, rfl, rfl, Nat.le_refl _, HA.out, HV.out, HX.out, Below.refl _ _⟩
  case round =>
    obtain ⟨g, s, k, hk, rfl, rfl, h5, hg, hv, htx, hbw⟩ := hrel
    have hssz : s.size ≤ 3000 := by
      have h1 := HT.out
      have h2 := HG.out
      rw [← htx, ByteArray.size_append, ByteArray.size_append] at h1
      omega
    have e4 := (Still.of_below hbw) _ _ hc4
    have HB := hide (hb0.trans (hbw.mono (Nat.le_of_lt hsz)))
    have HY := hide htx
    have HW := hide hv
    cases g with
    | nil =>
      have H5 : Hid (k = kids.len) := by unfold Hid; simpa [F.len] using hk
      have hge : kids.len ≤ k := Nat.le_of_eq H5.out.symm
      clear hk htx hv
      go_wp2_with fail
      go_ret
      refine ⟨?_, HB.out⟩
      rw [← HY.out]
      exact congrArg (fun x => Ending.returned (Value.string (x ++ bclose))) (bytes_nil s).symm
    | cons lab kd fr' ix' kids' rest =>
      rw [txF_md] at htx
      have hlt : k < kids.len := by simp only [F.len] at hk; omega
      obtain ⟨b', o, rfl, _, _, _, _, q0, q1, q2, q3, ⟨sv', q4, hsv⟩, _⟩ := (hg.still (Still.of_below hbw)).head
      have HK := hide hk
      have HX2 := hide htx
      have HS := hide hsv
      have HG2 := hide hg
      have H5 := hide h5
      have hz : s.size + (1 + lab.size + (txN kd fr' ix' kids').size) ≤ 3000 := by
        have h1 := HT.out
        have h2 := HG.out
        rw [← htx] at h1
        simp only [ByteArray.size_append, sepB_size] at h1
        omega
      simp only [vldF, Bool.and_eq_true] at hv
      have HW2 := hide hv
      have hbr := World.block_lt_of_cell? _ _ q0
      have hsd : Still wr wr.drew := fun _ _ h => h
      have HSd := hide (HS.out.still hsd)
      have hz1 : ∀ c : UInt8, (s ++ ⟨#[c]⟩).size = s.size + 1 := fun c => by rw [ByteArray.size_append]; rfl
      have hz2 : ∀ c : UInt8, (s ++ ⟨#[c]⟩ ++ lab).size = s.size + 1 + lab.size := fun c => by rw [ByteArray.size_append, hz1]
      have HZ1 := hide hz1
      have n1 : ∀ (c : UInt8) (W : World), (Op.stringOp .add s ⟨#[c]⟩).run Try.prog W = .ok (.string (s ++ ⟨#[c]⟩)) W := fun c W => run_string_add_sum W _ _ (show s.size + 1 ≤ _ by omega)
      have n2 : ∀ (c : UInt8) (W : World), (Op.stringOp .add (s ++ ⟨#[c]⟩) lab).run Try.prog W = .ok (.string (s ++ ⟨#[c]⟩ ++ lab)) W := fun c W => run_string_add_sum W _ _ (by rw [hz1]; omega)
      have n3 : ∀ (c : UInt8) (W : World), (Op.stringOp .add (s ++ ⟨#[c]⟩ ++ lab) (txN kd fr' ix' kids')).run Try.prog W = .ok (.string (s ++ ⟨#[c]⟩ ++ lab ++ txN kd fr' ix' kids')) W := fun c W => run_string_add_sum W _ _ (by rw [hz2]; omega)
      clear hk h5 hg hsv htx hv HW HY hz1 hz2 hz
      cases hkb : ((k : Int) == 0)
      all_goals go_wp2_with fail
      all_goals
        (go_region_held3 (fun w' => w'.cell? ⟨w.heap.size, 3, none⟩ = some (.slice (some ⟨b', o, none⟩) kids.len cap) ∧ w'.cell? ⟨b', o + k * 5, none⟩ = some (.string lab) ∧ w'.cell? ⟨b', o + k * 5 + 1, none⟩ = some (.int .i64 kd) ∧ w'.cell? ⟨b', o + k * 5 + 2, none⟩ = some (.string fr') ∧ w'.cell? ⟨b', o + k * 5 + 3, none⟩ = some (.int .i64 ix') ∧ w'.cell? ⟨b', o + k * 5 + 4, none⟩ = some sv')
          (first | exact ⟨e4, q0, q1, q2, q3, q4⟩ | exact ⟨g4, l0, l1, l2, l3, l4⟩)
          ((first
            | (go_at_call 50; refine (ih _ kd ix' b 0 (d - 1) fr' sv' kids' ?_ ?_ ?_ ?_ ?_ ?_ ?_).mono ?_; (have h1 := H5.out; have h2 := HN.out; simp only [F.sz] at h1; omega); (have h1 := H5.out; have h2 := HG.out; simp only [F.sz] at h1; omega); (exact HSd.out); (exact hb); (omega); (omega); (exact HW2.out.1);
               rintro e w6 ⟨rfl, hb12⟩; have hst := hsd.trans (Still.of_below hb12); have g4 := hst _ _ e4; have l0 := hst _ _ q0; have l1 := hst _ _ q1; have l2 := hst _ _ q2; have l3 := hst _ _ q3; have l4 := hst _ _ q4))))
        have hb14 := hbw.drew.trans (hb12.mono hbw.drew.size)
        clear hb12 hst g4 l0 l1 l2 l3 l4
        go_wp2_with fail
        refine ⟨⟨rest, s ++ sepB k ++ lab ++ txN kd fr' ix' kids', k + 1, ?_, ?_, by go_num, ?_, HG2.out.tail, HW2.out.2, ?_, ?_⟩, by simp [intOf]; omega⟩
        · have := HK.out
          simp only [F.len] at this
          omega
        · by_cases hk0 : k = 0
          · first
            | (exfalso; rw [hk0] at hkb; simp at hkb; done)
            | (unfold sepB; rw [if_pos hk0]; rfl)
          · first
            | (exfalso; have h9 := beq_iff_eq.1 hkb; omega)
            | (unfold sepB; rw [if_neg hk0]; rfl)
        · have := H5.out
          simp only [F.sz] at this
          omega
        · rw [← HX2.out]
          simp only [bytes_assoc]
        · exact hb14

set_option maxHeartbeats 800000 in
set_option maxRecDepth 100000 in
theorem fmt_act3 (n : Nat) (ih : FmtAt n) (w : World) (ix b u d : Int) (fr : ByteArray) (sv : Value) (kids : F) (hn : kids.sz < n + 1) (hbig : kids.sz ≤ 400) (hs : Sl w sv kids) (hb : 0 ≤ b) (hu : 0 ≤ u) (hbd : b + d ≤ 40)
    (hall : vldN 3 fr ix kids b u d = true) (hsh : shapeB 3 fr ix kids = true) (hv : vldF kids b 0 (d - 1) = true) :
    Calls Try.prog 50 #[.agg #[.int .i64 3, .string fr, .int .i64 ix, sv]] w fun e w' => e = .returned (.string (txN 3 fr ix kids)) ∧ Below w.heap.size w w' := by
  have htot := txN_size hb hu hbd hall
  have htx : fr ++ mark 3 ++ txF kids .first ++ bclose = txN 3 fr ix kids := rfl
  obtain ⟨e1, rfl, e5⟩ := shape_act (Or.inr rfl) hsh
  have hfr : fr.size = 1 := role_size e1
  obtain ⟨a, cap, rfl, hlen, hat⟩ := hs.at
  unfold maxLen at hlen
  have hb0 := alloc_below w (.cells #[.int .i64 3, .string fr, .int .i64 0, .slice a kids.len cap] ( /- t -/ 25))
  obtain ⟨hc4, hsz⟩ := box4_now w (.int .i64 3) (.string fr) (.int .i64 0) (.slice a kids.len cap) ( /- t -/ 25)
  have HA := hide (hat.still (Still.of_below hb0))
  have HN := hide hn
  have HT := hide htot
  have HX := hide htx
  have HV := hide hv
  have HG := hide hbig
  clear hs hsh hat hn htot htx hall hv e1 e5 hbig
  go_enter Try.func50, Try.ntmps50
  go_wp2_with fail
  generalize (w.alloc (.cells #[.int .i64 3, .string fr, .int .i64 0, .slice a kids.len cap] ( /- t -/ 25))) = W at *
  go_loopw [3, 4, 5] (fun ov iv _ wr => ∃ (g : F) (s : ByteArray) (k : Nat), k + g.len = kids.len ∧ ov = .string s ∧ iv = .int .i64 k ∧ g.sz ≤ kids.sz ∧ At W a k g ∧ vldF g b 0 (d - 1) = true ∧ s ++ txF g (md k) ++ bclose = txN 3 fr 0 kids ∧ Below W.heap.size W wr) (fun _ iv _ _ => kids.len - (intOf iv).toNat)
  case atStart => exact ⟨kids, fr ++ mark 3, 0, by omega, rfl, rfl, Nat.le_refl _, HA.out, HV.out, HX.out, Below.refl _ _⟩
  case round =>
    obtain ⟨g, s, k, hk, rfl, rfl, h5, hg, hv, htx, hbw⟩ := hrel
    have hssz : s.size ≤ 3000 := by
      have h1 := HT.out
      have h2 := HG.out
      rw [← htx, ByteArray.size_append, ByteArray.size_append] at h1
      omega
    have e4 := (Still.of_below hbw) _ _ hc4
    have HB := hide (hb0.trans (hbw.mono (Nat.le_of_lt hsz)))
    have HY := hide htx
    have HW := hide hv
    cases g with
    | nil =>
      have H5 : Hid (k = kids.len) := by unfold Hid; simpa [F.len] using hk
      have hge : kids.len ≤ k := Nat.le_of_eq H5.out.symm
      clear hk htx hv
      go_wp2_with fail
      go_ret
      refine ⟨?_, HB.out⟩
      rw [← HY.out]
      exact congrArg (fun x => Ending.returned (Value.string (x ++ bclose))) (bytes_nil s).symm
    | cons lab kd fr' ix' kids' rest =>
      rw [txF_md] at htx
      have hlt : k < kids.len := by simp only [F.len] at hk; omega
      obtain ⟨b', o, rfl, _, _, _, _, q0, q1, q2, q3, ⟨sv', q4, hsv⟩, _⟩ := (hg.still (Still.of_below hbw)).head
      have HK := hide hk
      have HX2 := hide htx
      have HS := hide hsv
      have HG2 := hide hg
      have H5 := hide h5
      have hz : s.size + (1 + lab.size + (txN kd fr' ix' kids').size) ≤ 3000 := by
        have h1 := HT.out
        have h2 := HG.out
        rw [← htx] at h1
        simp only [ByteArray.size_append, sepB_size] at h1
        omega
      simp only [vldF, Bool.and_eq_true] at hv
      have HW2 := hide hv
      have hbr := World.block_lt_of_cell? _ _ q0
      have hsd : Still wr wr.drew := fun _ _ h => h
      have HSd := hide (HS.out.still hsd)
      have hz1 : ∀ c : UInt8, (s ++ ⟨#[c]⟩).size = s.size + 1 := fun c => by rw [ByteArray.size_append]; rfl
      have hz2 : ∀ c : UInt8, (s ++ ⟨#[c]⟩ ++ lab).size = s.size + 1 + lab.size := fun c => by rw [ByteArray.size_append, hz1]
      have HZ1 := hide hz1
      have n1 : ∀ (c : UInt8) (W : World), (Op.stringOp .add s ⟨#[c]⟩).run Try.prog W = .ok (.string (s ++ ⟨#[c]⟩)) W := fun c W => run_string_add_sum W _ _ (show s.size + 1 ≤ _ by omega)
      have n2 : ∀ (c : UInt8) (W : World), (Op.stringOp .add (s ++ ⟨#[c]⟩) lab).run Try.prog W = .ok (.string (s ++ ⟨#[c]⟩ ++ lab)) W := fun c W => run_string_add_sum W _ _ (by rw [hz1]; omega)
      have n3 : ∀ (c : UInt8) (W : World), (Op.stringOp .add (s ++ ⟨#[c]⟩ ++ lab) (txN kd fr' ix' kids')).run Try.prog W = .ok (.string (s ++ ⟨#[c]⟩ ++ lab ++ txN kd fr' ix' kids')) W := fun c W => run_string_add_sum W _ _ (by rw [hz2]; omega)
      clear hk h5 hg hsv htx hv HW HY hz1 hz2 hz
      cases hkb : ((k : Int) == 0)
      all_goals go_wp2_with fail
      all_goals
        (go_region_held3 (fun w' => w'.cell? ⟨w.heap.size, 3, none⟩ = some (.slice (some ⟨b', o, none⟩) kids.len cap) ∧ w'.cell? ⟨b', o + k * 5, none⟩ = some (.string lab) ∧ w'.cell? ⟨b', o + k * 5 + 1, none⟩ = some (.int .i64 kd) ∧ w'.cell? ⟨b', o + k * 5 + 2, none⟩ = some (.string fr') ∧ w'.cell? ⟨b', o + k * 5 + 3, none⟩ = some (.int .i64 ix') ∧ w'.cell? ⟨b', o + k * 5 + 4, none⟩ = some sv')
          (first | exact ⟨e4, q0, q1, q2, q3, q4⟩ | exact ⟨g4, l0, l1, l2, l3, l4⟩)
          ((first
            | (go_at_call 50; refine (ih _ kd ix' b 0 (d - 1) fr' sv' kids' ?_ ?_ ?_ ?_ ?_ ?_ ?_).mono ?_; (have h1 := H5.out; have h2 := HN.out; simp only [F.sz] at h1; omega); (have h1 := H5.out; have h2 := HG.out; simp only [F.sz] at h1; omega); (exact HSd.out); (exact hb); (omega); (omega); (exact HW2.out.1);
               rintro e w6 ⟨rfl, hb12⟩; have hst := hsd.trans (Still.of_below hb12); have g4 := hst _ _ e4; have l0 := hst _ _ q0; have l1 := hst _ _ q1; have l2 := hst _ _ q2; have l3 := hst _ _ q3; have l4 := hst _ _ q4))))
        have hb14 := hbw.drew.trans (hb12.mono hbw.drew.size)
        clear hb12 hst g4 l0 l1 l2 l3 l4
        go_wp2_with fail
        refine ⟨⟨rest, s ++ sepB k ++ lab ++ txN kd fr' ix' kids', k + 1, ?_, ?_, by go_num, ?_, HG2.out.tail, HW2.out.2, ?_, ?_⟩, by simp [intOf]; omega⟩
        · have := HK.out
          simp only [F.len] at this
          omega
        · by_cases hk0 : k = 0
          · first
            | (exfalso; rw [hk0] at hkb; simp at hkb; done)
            | (unfold sepB; rw [if_pos hk0]; rfl)
          · first
            | (exfalso; have h9 := beq_iff_eq.1 hkb; omega)
            | (unfold sepB; rw [if_neg hk0]; rfl)
        · have := H5.out
          simp only [F.sz] at this
          omega
        · rw [← HX2.out]
          simp only [bytes_assoc]
        · exact hb14

theorem fmt_all : ∀ n, FmtAt n := by
  intro n
  induction n with
  | zero => intro w k ix b u d fr sv kids hn; omega
  | succ n ih =>
    intro w k ix b u d fr sv kids hn hbig hs hb hu hbd hv
    have hv2 := hv
    unfold vldN at hv2
    obtain ⟨hd, hsh, hk⟩ := node_kinds hu hv2
    rcases hk with rfl | ⟨rfl, h0, h1, -⟩ | ⟨rfl, h3⟩ | ⟨hkk, h2⟩
    · exact fmt_end w ix fr sv kids hs
    · exact fmt_var w ix fr sv kids hs h0 (by omega)
    · exact fmt_rec n ih w ix b u d fr sv kids hn hbig hs hb hu hbd hsh h3
    · rcases hkk with rfl | rfl
      · exact fmt_act2 n ih w ix b u d fr sv kids hn hbig hs hb hu hbd hv hsh h2
      · exact fmt_act3 n ih w ix b u d fr sv kids hn hbig hs hb hu hbd hv hsh h2

set_option maxHeartbeats 400000 in
set_option maxRecDepth 100000 in
/-- FormatLocal of the model. -/
theorem specFormat (w : World) (k ix : Int) (fr : ByteArray) (sv : Value) (kids : F) (hs : Sl w sv kids) (hbig : kids.sz ≤ 1048576) :
    Calls Try.prog 43 #[.agg #[.int .i64 k, .string fr, .int .i64 ix, sv]] w fun e w' => e = .returned (.string (textN k fr ix kids)) ∧ Below w.heap.size w w' := by
  have HS := hide hs
  clear hs
  go_enter Try.func43, Try.ntmps43
  go_wp2_with fail
  refine (specValid _ k ix fr sv kids (HS.out.still (Still.of_below (alloc_below _ _))) hbig).mono ?_
  rintro e w1 ⟨rfl, hb⟩
  have BX := (Box4.now w (.int .i64 k) (.string fr) (.int .i64 ix) sv ( /- t -/ 25)).below hb
  obtain ⟨c0, c1, c2, c3⟩ := BX.cells
  have hlt := BX.lt
  have hb2 := alloc_then hb
  clear BX
  clear hb
  cases hv : okN k fr ix kids with
  | false =>
    go_wp2_with fail
    go_ret
    refine ⟨?_, hb2⟩
    unfold textN
    rw [hv]
    rfl
  | true =>
    have HV := hide hv
    have h2 := hv
    unfold okN at h2
    simp only [Bool.and_eq_true, decide_eq_true_eq] at h2
    have H2 := hide h2
    clear hv h2
    go_wp2_with fail
    refine (fmt_all (kids.sz + 1) _ k ix 0 0 40 fr sv kids (Nat.lt_succ_self _) (by have := H2.out.2; omega) (HS.out.still (Still.of_below hb2)) (by omega) (by omega) (by omega) H2.out.1).mono ?_
    rintro e w2 ⟨rfl, hb3⟩
    have hb4 := hb2.trans (hb3.mono hb2.size)
    clear hb3
    go_wp2_with fail
    go_ret
    refine ⟨?_, hb4⟩
    unfold textN
    rw [HV.out]
    rfl
end Go.Proofs.Ytpjbffggeegdaaa.Lo

/- ParseLocal of the model. -/
namespace Go.Proofs.Ytpjbffggeegdaaa.Lo.Ne
open Go.RowKit

theorem bl_bs (s : List UInt8) : bl (bs s) = s := by simp [bl, bs]
theorem text_iff (N : Nd) {s : List UInt8} (hs0 : s ≠ []) : textN N.k N.fr N.ix N.kids = bs s ↔ (okN N.k N.fr N.ix N.kids = true ∧ bl (txN N.k N.fr N.ix N.kids) = s) := by
  unfold textN
  cases hk : okN N.k N.fr N.ix N.kids with
  | true =>
    rw [if_pos rfl]
    refine ⟨fun h => ⟨rfl, by rw [h, bl_bs]⟩, fun h => bl_inj (by rw [h.2, bl_bs])⟩
  | false =>
    rw [if_neg (by decide)]
    refine ⟨fun h => absurd (congrArg ByteArray.size h) ?_, fun h => by cases h.1⟩
    rw [bs_size]
    intro h0
    exact hs0 (List.length_eq_zero_iff.1 h0.symm)

set_option maxHeartbeats 1600000 in
set_option maxRecDepth 100000 in
/-- ParseLocal of the model. -/
theorem specParseL (w : World) (s : List UInt8) (hs : s.length ≤ 1048576) :
    Calls Try.prog 33 #[.string (bs s)] w (PlPost s w) := by
  have hsz : (bs s).size = s.length := bs_size s
  have HP := hide (fun (W : World) => sp_every 40 (by omega) W s 0 hs (Nat.zero_le _))
  go_enter Try.func33, Try.ntmps33
  go_wp2_with fail
  have hx := Box4.now w (.int .i64 0) (.string ⟨#[]⟩) (.int .i64 0) (.slice none 0 0) ( /- t -/ 25)
  have hb1 := alloc_below w (.cells #[.int .i64 0, .string ⟨#[]⟩, .int .i64 0, .slice none 0 0] ( /- t -/ 25))
  have hw1 : w.heap.size < (w.alloc (.cells #[.int .i64 0, .string ⟨#[]⟩, .int .i64 0, .slice none 0 0] ( /- t -/ 25))).heap.size := by simp
  generalize w.alloc (.cells #[.int .i64 0, .string ⟨#[]⟩, .int .i64 0, .slice none 0 0] ( /- t -/ 25)) = W at *
  refine (HP.out W).mono ?_
  intro e w4 hp4
  rw [List.drop_zero] at hp4
  have HX4 := hide (hx.below hp4.1)
  obtain ⟨y0, y1, y2, y3⟩ := HX4.out.cells
  have hf := box4_frozen HX4.out
  have hl := HX4.out.lt
  have HB4 := hide (hb1.trans (hp4.1.mono hb1.size))
  have hs4 := hp4.1.size
  clear hx hb1
  cases hr : sp 40 s with
  | none =>
    obtain ⟨k, fr, ix, a, m, cp, rfl⟩ := hp4.2.2 hr
    have HN := hide (show resL s = none by rw [resLM, resM, hr])
    have hne : ¬ (-1 : Int) = (s.length : Int) := by omega
    clear hp4 hr
    go_wp2_with fail
    refine bodyPost_ret (v := .tuple #[.agg #[.int .i64 0, .string ⟨#[]⟩, .int .i64 0, .slice none 0 0], .bool false]) (by simp [results, Try.results33, go_sem, *]) rfl ?_
    exact pl_no HN.out ((below_set4 HB4.out (Nat.le_refl _) _ _ _ _).alloc (by simp; omega) _)
  | some qq =>
    obtain ⟨N, t⟩ := qq
    obtain ⟨q, u, bs2, hq, ht, rfl, how, hge, hnd⟩ := hp4.2.1 N t hr
    obtain ⟨ua, uc, rfl⟩ := how.val
    have hks := sp_sz _ _ _ _ hr
    have HOW := hide how
    have HGE := hide hge
    have HND := hide hnd
    by_cases hql : q = s.length
    case neg =>
      have HN := hide (show resL s = none by
        rw [resLM, resM, hr, ht]
        cases h : s.drop q with
        | nil =>
          have := congrArg List.length h
          simp at this
          omega
        | cons a b => rfl)
      have hne : ¬ (q : Int) = (s.length : Int) := by omega
      clear hp4 hr how hge hnd
      go_wp2_with fail
      refine bodyPost_ret (v := .tuple #[.agg #[.int .i64 0, .string ⟨#[]⟩, .int .i64 0, .slice none 0 0], .bool false]) (by simp [results, Try.results33, go_sem, *]) rfl ?_
      exact pl_no HN.out ((below_set4 HB4.out (Nat.le_refl _) _ _ _ _).alloc (by simp; omega) _)
    case pos =>
      have hq2 : (q : Int) = (s.length : Int) := by omega
      have hs0 : s ≠ [] := by
        rintro rfl
        have h0 : sp 40 [] = none := rfl
        rw [h0] at hr
        cases hr
      have he : (bs s).toList.isEmpty = false := by
        cases s with
        | nil => exact absurd rfl hs0
        | cons a b => exact bs_full a b
      have hne1 : ¬ (bs s).toList = [] := by
        cases s with
        | nil => exact absurd rfl hs0
        | cons a b => exact bs_ne a b
      have ht0 : t = [] := by rw [ht, hql, List.drop_length]
      have hks : N.kids.sz ≤ 1048576 := by omega
      have HQ := hide (show sp 40 s = some (N, []) by rw [hr, ht0])
      clear hp4 hr how hge hnd hq ht ht0 hql
      go_wp2_with fail
      refine (specFormat _ N.k N.ix N.fr (.slice ua N.kids.len uc) N.kids (HOW.out.sl.still (Still.of_below (alloc_below w4 _))) hks).mono ?_
      rintro e w2 ⟨rfl, hb⟩
      have hb12 := alloc_then hb
      have hbx := (Box4.now w4 (.int .i64 N.k) (.string N.fr) (.int .i64 N.ix) (.slice ua N.kids.len uc) ( /- t -/ 25)).below hb
      obtain ⟨z0, z1, z2, z3⟩ := hbx.cells
      have zl := hbx.lt
      have hx2 := HX4.out.below hb12
      obtain ⟨x0, x1, x2, x3⟩ := hx2.cells
      have fx := box4_frozen hx2
      have lx := hx2.lt
      have HB2 := hide (HB4.out.trans (hb12.mono (by omega)))
      have HOW2 := hide (HOW.out.same (Same.of_below hb12 HOW.out.lt))
      have hs24 := hb12.size
      clear hb hbx hx2 y0 y1 y2 y3 hf hl
      by_cases heq : textN N.k N.fr N.ix N.kids = bs s
      · have HN := hide (show resL s = some N by
          rw [resLM, resM, HQ.out]
          show (if _ then _ else _) = _
          rw [if_pos ((text_iff N hs0).1 heq)])
        rw [heq]
        clear heq
        go_wp2_with fail
        refine bodyPost_ret (v := .tuple #[.agg #[.int .i64 N.k, .string N.fr, .int .i64 N.ix, .slice ua N.kids.len uc], .bool true]) (by simp [results, Try.results33, go_sem, *]) rfl ?_
        exact pl_yes HN.out (ow_set4 HOW2.out (fun b hb => by have := HGE.out b hb; omega) _ _ _ _) (fun b hb => by have := HGE.out b hb; omega) HND.out (below_set4 HB2.out (Nat.le_refl _) _ _ _ _)
      · have HN := hide (show resL s = none by
          rw [resLM, resM, HQ.out]
          show (if _ then _ else _) = _
          rw [if_neg (fun h => heq ((text_iff N hs0).2 h))])
        have hnb : ((textN N.k N.fr N.ix N.kids).toList == (bs s).toList) = false := beq_eq_false_iff_ne.2 (fun h => heq (by
          rw [ByteArray.toList_eq, ByteArray.toList_eq] at h
          exact ByteArray.ext (Array.toList_inj.1 h)))
        generalize textN N.k N.fr N.ix N.kids = tt at *
        clear heq
        go_wp2_with fail
        refine bodyPost_ret (v := .tuple #[.agg #[.int .i64 0, .string ⟨#[]⟩, .int .i64 0, .slice none 0 0], .bool false]) (by simp [results, Try.results33, go_sem, *]) rfl ?_
        exact pl_no HN.out (below_set4 HB2.out (Nat.le_refl _) _ _ _ _)
end Go.Proofs.Ytpjbffggeegdaaa.Lo.Ne

/- l2Local and l2Draw of the model: a tree in memory of its own. -/
namespace Go.Proofs.Ytpjbffggeegdaaa.Lo
open Go.RowKit

namespace Ne
theorem sm_vld : ∀ (f : F) (b u d : Int), 0 ≤ u → vldF f b u d = true → digF f = true → smF f := by
  intro f
  induction f with
  | nil => intro b u d _ _ _; trivial
  | cons lab k fr ix kids rest ihk ihr =>
    intro b u d hu hv hd
    simp only [vldF, Bool.and_eq_true] at hv
    simp only [digF, Bool.and_eq_true] at hd
    have hn : vldN k fr ix kids b u d = true := hv.1
    unfold vldN at hn
    obtain ⟨hd1, hsh, hk⟩ := node_kinds hu hn
    have hix : 0 ≤ ix ∧ ix ≤ 9 ∧ smF kids := by
      rcases hk with rfl | ⟨rfl, h0, h1, rfl⟩ | ⟨rfl, hr⟩ | ⟨hkk, ha⟩
      · obtain ⟨e1, rfl, rfl⟩ := shape_end hsh
        exact ⟨by omega, by omega, trivial⟩
      · exact ⟨h0, by simpa using hd.1, trivial⟩
      · obtain ⟨e1, rfl, lab', k', fr', ix', kids', rfl, e2⟩ := shape_rec hsh
        exact ⟨by omega, by omega, ihk (b + 1) (u + 1) (d - 1) (by omega) hr hd.2.1⟩
      · obtain ⟨e1, rfl, e3⟩ := shape_act hkk hsh
        exact ⟨by omega, by omega, ihk b 0 (d - 1) (by omega) ha hd.2.1⟩
    exact ⟨⟨hix.1, hix.2.1⟩, hix.2.2, ihr b u d hu hv.2 hd.2.2⟩
theorem out_facts (s : List UInt8) : (outL s).fr.size ≤ maxLen ∧ (Lit.int .i64 (outL s).k).wf = true ∧ (Lit.int .i64 (outL s).ix).wf = true ∧ (outL s).kids.sz ≤ 399 ∧ smF (outL s).kids := by
  cases h : resL s with
  | none =>
    unfold outL
    rw [h]
    exact ⟨Nat.zero_le _, by decide, by decide, Nat.zero_le _, trivial⟩
  | some N =>
    obtain ⟨h1, h2, -⟩ := (resL_iff s N).1 h
    unfold outL
    rw [h]
    show N.fr.size ≤ maxLen ∧ _ ∧ _ ∧ N.kids.sz ≤ 399 ∧ smF N.kids
    unfold okN at h1
    simp only [Bool.and_eq_true, decide_eq_true_eq] at h1
    have hn := h1.1
    unfold vldN at hn
    obtain ⟨hd1, hsh, hk⟩ := node_kinds (by omega) hn
    unfold digN at h2
    simp only [Bool.and_eq_true] at h2
    rcases hk with hk | ⟨hk, h0, h3, hkn⟩ | ⟨hk, hr⟩ | ⟨hkk, ha⟩
    · rw [hk] at hsh
      obtain ⟨e1, e2, e3⟩ := shape_end hsh
      obtain e1 := empty_of_list e1
      show N.fr.size ≤ maxLen ∧ (Lit.int .i64 N.k).wf = true ∧ (Lit.int .i64 N.ix).wf = true ∧ _
      rw [e1, e2, e3, hk]
      exact ⟨Nat.zero_le _, by decide, by decide, Nat.zero_le _, trivial⟩
    · omega
    · rw [hk] at hsh
      obtain ⟨e1, e2, lab', k', fr', ix', kids', e3, e4⟩ := shape_rec hsh
      obtain e1 := empty_of_list e1
      show N.fr.size ≤ maxLen ∧ (Lit.int .i64 N.k).wf = true ∧ (Lit.int .i64 N.ix).wf = true ∧ _
      rw [e1, e2, hk]
      exact ⟨Nat.zero_le _, by decide, by decide, by omega, sm_vld _ 1 1 39 (by omega) hr h2.2⟩
    · obtain ⟨e1, e2, e3⟩ := shape_act hkk hsh
      have e4 := role_size e1
      show N.fr.size ≤ maxLen ∧ (Lit.int .i64 N.k).wf = true ∧ (Lit.int .i64 N.ix).wf = true ∧ _
      rw [e2]
      refine ⟨by rw [e4]; unfold maxLen; omega, ?_, by decide, by omega, sm_vld _ 0 0 39 (by omega) ha h2.2⟩
      rcases hkk with hkk | hkk <;> (rw [hkk]; decide)
end Ne

theorem sl6 (w : World) (s0 s1 s2 s3 s4 s5 : ByteArray) (t : TypeId) (h0 : s0.size ≤ maxLen) (h1 : s1.size ≤ maxLen) (h2 : s2.size ≤ maxLen) (h3 : s3.size ≤ maxLen) (h4 : s4.size ≤ maxLen) (h5 : s5.size ≤ maxLen) :
    SlG elS (w.alloc (.cells #[.string s0, .string s1, .string s2, .string s3, .string s4, .string s5] t)) (.slice (some ⟨w.heap.size, 0, none⟩) 6 6) [s0, s1, s2, s3, s4, s5] := by
  have hh := heap_new w (.cells #[.string s0, .string s1, .string s2, .string s3, .string s4, .string s5] t)
  refine ⟨_, 6, rfl, Nat.le_refl _, by unfold maxLen; omega, Or.inr ⟨w.heap.size, 0, rfl, ⟨h0, ?_⟩, ⟨h1, ?_⟩, ⟨h2, ?_⟩, ⟨h3, ?_⟩, ⟨h4, ?_⟩, ⟨h5, ?_⟩, trivial⟩⟩
  all_goals (rw [cell_of_heap hh]; rfl)
theorem sl4i (w : World) (s0 s1 s2 s3 : Int) (t : TypeId) :
    SlG elI64 (w.alloc (.cells #[.int .i64 s0, .int .i64 s1, .int .i64 s2, .int .i64 s3] t)) (.slice (some ⟨w.heap.size, 0, none⟩) 4 4) [s0, s1, s2, s3] := by
  have hh := heap_new w (.cells #[.int .i64 s0, .int .i64 s1, .int .i64 s2, .int .i64 s3] t)
  refine ⟨_, 4, rfl, Nat.le_refl _, by unfold maxLen; omega, Or.inr ⟨w.heap.size, 0, rfl, ?_, ?_, ?_, ?_, trivial⟩⟩
  all_goals (show World.cell? _ _ = _; rw [cell_of_heap hh]; rfl)
theorem size_all {fr : ByteArray} {L : List ByteArray} (n : Nat) (h : fr ∈ L) (hL : L.all (fun s => decide (s.size ≤ n)) = true) : fr.size ≤ n := of_decide_eq_true (List.all_eq_true.1 hL fr h)
theorem qs_le4 {D : Nat} (h : D ≤ 4) : qs D ≤ 2304 ∧ zs D ≤ 120 := by
  have : D = 0 ∨ D = 1 ∨ D = 2 ∨ D = 3 ∨ D = 4 := by omega
  rcases this with rfl | rfl | rfl | rfl | rfl <;> decide

set_option maxHeartbeats 2000000 in
set_option maxRecDepth 100000 in
theorem local_calls (w : World) (rb : Nat) (cv : Value) (l : List Nat) (p : Nat) (h : Rd w rb cv l p) (hp : p + 3000 ≤ 1000000) :
    Calls Try.prog 22 #[.pointer (some ⟨rb, 0, none⟩)] w (DrP (fun N => smF N.kids) w rb cv l p 2310 400) := by
  have hrb := h.lt
  have HS := hide (St.new h ( /- t -/ 25))
  clear h
  go_enter Try.func22, Try.ntmps22
  go_upto_region 1 with fail
  generalize w.alloc (.cells #[.int .i64 0, .string ⟨#[]⟩, .int .i64 0, .slice none 0 0] ( /- t -/ 25)) = W at *
  go_wp2_with fail
  refine (pick_calls _ rb cv l _ HS.out.rd (by omega) 2 (by omega)).mono ?_
  rintro e w1 ⟨v, rfl, hv, hask⟩
  have H1 := hide (HS.out.ask hask)
  clear hask HS
  by_cases hv0 : v = 0
  case pos =>
    subst hv0
    go_wp2_with fail
    have HA0 := hide (H1.out.alloc (.cells #[.string ⟨#[64, 66, 33, 123, 97, 35, 48, 124, 98, 46, 125]⟩, .string ⟨#[64, 65, 63, 123, 97, 35, 48, 124, 98, 46, 125]⟩, .string ⟨#[66, 33, 123, 97, 67, 63, 123, 100, 46, 125, 124, 98, 67, 63, 123, 100, 46, 125, 125]⟩, .string ⟨#[64, 65, 63, 123, 97, 64, 67, 33, 123, 98, 35, 48, 124, 99, 35, 49, 125, 124, 100, 46, 125]⟩, .string ⟨#[66, 63, 123, 97, 46, 124, 98, 67, 33, 123, 97, 46, 125, 125]⟩, .string ⟨#[46]⟩] ( /- t -/ 9)))
    refine (of_calls _ rb cv l _ HA0.out.rd (by omega) [⟨#[64, 66, 33, 123, 97, 35, 48, 124, 98, 46, 125]⟩, ⟨#[64, 65, 63, 123, 97, 35, 48, 124, 98, 46, 125]⟩, ⟨#[66, 33, 123, 97, 67, 63, 123, 100, 46, 125, 124, 98, 67, 63, 123, 100, 46, 125, 125]⟩, ⟨#[64, 65, 63, 123, 97, 64, 67, 33, 123, 98, 35, 48, 124, 99, 35, 49, 125, 124, 100, 46, 125]⟩, ⟨#[66, 63, 123, 97, 46, 124, 98, 67, 33, 123, 97, 46, 125, 125]⟩, ⟨#[46]⟩] _ (sl6 w1 _ _ _ _ _ _ ( /- t -/ 9) (show (11 : Nat) ≤ maxLen by unfold maxLen; omega) (show (11 : Nat) ≤ maxLen by unfold maxLen; omega) (show (19 : Nat) ≤ maxLen by unfold maxLen; omega) (show (21 : Nat) ≤ maxLen by unfold maxLen; omega) (show (14 : Nat) ≤ maxLen by unfold maxLen; omega) (show (1 : Nat) ≤ maxLen by unfold maxLen; omega)) (by decide) (by decide) (new_far H1.out.rd.lt)).mono ?_
    rintro e w2 ⟨s, hs, rfl, hask⟩
    have H2 := hide (HA0.out.ask hask)
    have hsz := size_all 100 hs (by decide)
    clear hask HA0 hs
    have HP := hide (Ne.specParseL w2 s.data.toList (by have := Ne.bs_size s.data.toList; rw [Ne.bs_list] at this; omega))
    rw [Ne.bs_list] at HP
    obtain ⟨o1, o2, o3, o4, o5⟩ := Ne.out_facts s.data.toList
    have HO := hide (And.intro o1 (And.intro o2 (And.intro o3 (And.intro o4 o5))))
    clear o1 o2 o3 o4 o5
    go_wp2_with fail
    refine HP.out.mono ?_
    unfold Ne.PlPost
    generalize Ne.outL s.data.toList = N at *
    generalize (Ne.resL s.data.toList).isSome = ok at *
    rintro e w3 ⟨u, bs, rfl, how, hge, hnd, hb⟩
    obtain ⟨ua, uc, rfl⟩ := how.val
    have H3 := hide (H2.out.below hb)
    have HOW := hide how
    have HGE : Hid (∀ x, x ∈ bs → w.heap.size < x) := hide (fun x hx => by have h1 := hge x hx; have h2 := H2.out.box.lt; omega)
    have HND := hide hnd
    obtain ⟨x0, x1, x2, x3⟩ := H3.out.box.cells
    have fx := H3.out.box.frozen
    have lx := H3.out.box.lt
    clear how hge hnd hb
    go_wp2_with fail
    try rw [set4_alloc _ _ _ _ _ _ _ lx]
    have H4 := hide (H3.out.alloc (.cells #[.int .i64 N.k, .string N.fr, .int .i64 N.ix, .slice ua N.kids.len uc] ( /- t -/ 25)))
    have HOW4 := hide (HOW.out.same (Same.of_below (alloc_below w3 (.cells #[.int .i64 N.k, .string N.fr, .int .i64 N.ix, .slice ua N.kids.len uc] ( /- t -/ 25))) HOW.out.lt))
    refine bodyPost_ret (v := .agg #[.int .i64 N.k, .string N.fr, .int .i64 N.ix, .slice ua N.kids.len uc]) (by simp [results, Try.results22, go_sem, *]) rfl ?_
    exact ⟨⟨N.k, N.fr, N.ix, N.kids⟩, _, bs, rfl, HO.out.2.2.2.2, dr_fin (N := ⟨N.k, N.fr, N.ix, N.kids⟩) H4.out.start H4.out.only H4.out.rd (by omega) HOW4.out w.heap.size (Nat.le_refl _) HGE.out HND.out ⟨HO.out.1, HO.out.2.1, HO.out.2.2.1⟩ (Nat.le_trans HO.out.2.2.2.1 (by omega)) _ _ _ _⟩
  case neg =>
    have hv1 : ((v : Int) == 0) = false := beq_eq_false_iff_ne.2 (by omega)
    have hv2 : ¬ (v : Int) = 0 := by omega
    go_wp2_with fail
    have HA0 := hide (H1.out.alloc (.cells #[.int .i64 3, .int .i64 2, .int .i64 4, .int .i64 1] ( /- t -/ 3)))
    refine (num_calls _ rb cv l _ HA0.out.rd (by omega) [3, 2, 4, 1] _ (sl4i w1 _ _ _ _ ( /- t -/ 3)) (by decide) (by decide) (new_far H1.out.rd.lt)).mono ?_
    rintro e w2 ⟨nv, hnv, rfl, hask⟩
    have H2 := hide (HA0.out.ask hask)
    have hD : ∃ D : Nat, D ≤ 4 ∧ nv = (D : Int) := by
      simp only [List.mem_cons, List.not_mem_nil, or_false] at hnv
      exact ⟨nv.toNat, by omega, by omega⟩
    obtain ⟨D, hD4, rfl⟩ := hD
    obtain ⟨hq, hz⟩ := qs_le4 hD4
    clear hask HA0 hnv
    go_wp2_with fail
    refine (rand_all D (by omega) w2 rb cv l _ H2.out.rd (by omega) 0 0 (by omega) (by omega) (by omega)).mono ?_
    rintro e w3 ⟨N, un, bs, rfl, hqn, hdr⟩
    obtain ⟨ua, uc, rfl⟩ := hdr.own.val
    obtain ⟨p', hp', hrd⟩ := hdr.rd
    have H3 := hide (H2.out.on hdr.only hrd)
    have HDR := hide hdr
    have HQN := hide hqn
    obtain ⟨x0, x1, x2, x3⟩ := H3.out.box.cells
    have fx := H3.out.box.frozen
    have lx := H3.out.box.lt
    clear hdr hrd hqn
    go_wp2_with fail
    refine bodyPost_ret (v := .agg #[.int .i64 N.k, .string N.fr, .int .i64 N.ix, .slice ua N.kids.len uc]) (by simp [results, Try.results22, go_sem, *]) rfl ?_
    exact ⟨N, _, bs, rfl, HQN.out.2, dr_fin H3.out.start H3.out.only H3.out.rd (by omega) HDR.out.own w.heap.size (Nat.le_refl _) (fun x hx => by have h1 := HDR.out.ge x hx; have h2 := H2.out.box.lt; omega) HDR.out.nd HDR.out.fit (Nat.le_trans HDR.out.sz (by omega)) _ _ _ _⟩

/-- A drawn tree: memory of its own, of moderate size. -/
def Drawn (w : World) (e : Ending) (w' : World) : Prop :=
  ∃ (N : Nd) (u : Value) (bs : List Nat), e = .returned (.agg #[.int .i64 N.k, .string N.fr, .int .i64 N.ix, u]) ∧ Ow w' u N.kids bs ∧ (∀ b, b ∈ bs → w.heap.size ≤ b) ∧ bs.Nodup ∧ Below w.heap.size w w' ∧ Fit N ∧ N.kids.sz ≤ 500 ∧ smF N.kids

theorem drawn_set {w w2 : World} {N : Nd} {u : Value} {bs : List Nat} (how : Ow w2 u N.kids bs) (hge : ∀ x, x ∈ bs → w.heap.size < x) (hnd : bs.Nodup) (hb : Below w.heap.size w w2) (hf : Fit N) (hs : N.kids.sz ≤ 500) (hm : smF N.kids) (v0 v1 v2 v3 : Value) :
    Drawn w (.returned (.agg #[.int .i64 N.k, .string N.fr, .int .i64 N.ix, u])) ((((w2.setCell ⟨w.heap.size, 0, none⟩ v0).setCell ⟨w.heap.size, 1, none⟩ v1).setCell ⟨w.heap.size, 2, none⟩ v2).setCell ⟨w.heap.size, 3, none⟩ v3) := by
  have hne : ∀ x, x ≠ w.heap.size → ((((w2.setCell ⟨w.heap.size, 0, none⟩ v0).setCell ⟨w.heap.size, 1, none⟩ v1).setCell ⟨w.heap.size, 2, none⟩ v2).setCell ⟨w.heap.size, 3, none⟩ v3).heap[x]? = w2.heap[x]? := fun x hx =>
    (Below.heap_setCell _ _ _ _ hx).trans ((Below.heap_setCell _ _ _ _ hx).trans ((Below.heap_setCell _ _ _ _ hx).trans (Below.heap_setCell _ _ _ _ hx)))
  exact ⟨N, u, bs, rfl, how.same (fun x hx => hne x (by have := hge x hx; omega)), fun x hx => Nat.le_of_lt (hge x hx), hnd, (((hb.setCell (Nat.le_refl _) _).setCell (Nat.le_refl _) _).setCell (Nat.le_refl _) _).setCell (Nat.le_refl _) _, hf, hs, hm⟩

set_option maxHeartbeats 2000000 in
set_option maxRecDepth 100000 in
theorem draw_calls (w : World) (sv : Value) (l : List Nat) (hs : SlG elY w sv l) : Calls Try.prog 10 #[sv] w (Drawn w) := by
  have HSV := hide hs
  clear hs
  go_enter Try.func10, Try.ntmps10
  go_upto_region 1 with fail
  have hx0 := Box4.now w (.int .i64 0) (.string ⟨#[]⟩) (.int .i64 0) (.slice none 0 0) ( /- t -/ 25)
  have hb0 := alloc_below w (.cells #[.int .i64 0, .string ⟨#[]⟩, .int .i64 0, .slice none 0 0] ( /- t -/ 25))
  have hz0 : (w.alloc (.cells #[.int .i64 0, .string ⟨#[]⟩, .int .i64 0, .slice none 0 0] ( /- t -/ 25))).heap.size = w.heap.size + 1 := by simp
  generalize w.alloc (.cells #[.int .i64 0, .string ⟨#[]⟩, .int .i64 0, .slice none 0 0] ( /- t -/ 25)) = W at *
  have HX0 := hide hx0
  have HB0 := hide hb0
  have HZ0 := hide hz0
  clear hx0 hb0 hz0
  go_wp2_with fail
  refine (open_rd W sv l (HSV.out.still (Still.of_below HB0.out))).mono ?_
  rintro e w1 ⟨cv, l', rfl, hrd, hb, hz⟩
  have HX1 := hide (HX0.out.below hb)
  have HB1 := hide (HB0.out.trans (hb.mono (by have := HZ0.out; omega)))
  have HRD := hide hrd
  have HZ1 := hide hz
  have hrbz : w.heap.size < W.heap.size := by have := HZ0.out; omega
  clear hrd hb hz HX0 HB0 HZ0
  generalize W.heap.size = rb at *
  go_wp2_with fail
  refine (local_calls w1 rb cv l' 0 HRD.out (by omega)).mono ?_
  rintro e w2 ⟨N, u, bs, rfl, hq, hdr⟩
  obtain ⟨ua, uc, rfl⟩ := hdr.own.val
  obtain ⟨p', hp', hrd2⟩ := hdr.rd
  have HX2 := hide (HX1.out.same (hdr.only.block _ HX1.out.lt (by omega)))
  have HB2 := hide (HB1.out.trans (hdr.only.to_below (B := w.heap.size) (by omega) (by have := HX1.out.lt; omega)))
  have HDR := hide hdr
  have HRD2 := hide hrd2
  have HQ := hide hq
  have hw2 : w.heap.size < w2.heap.size := HX2.out.lt
  clear hdr hrd2 hq HX1 HB1 HRD
  go_wp2_with fail
  refine (mut_calls w2 rb cv l' p' HRD2.out (by omega) N _ HDR.out.own.sl HDR.out.fit (by have := HDR.out.sz; omega)).mono ?_
  rintro e w3 ⟨N3, u3, bs3, rfl, hq3, hdr3⟩
  obtain ⟨va, vc, rfl⟩ := hdr3.own.val
  have HX3 := hide (HX2.out.same (hdr3.only.block _ HX2.out.lt (by omega)))
  have HB3 := hide (HB2.out.trans (hdr3.only.to_below (B := w.heap.size) (by omega) (by omega)))
  have HD3 := hide hdr3
  have HQ3 := hide (hq3 HQ.out)
  obtain ⟨x0, x1, x2, x3⟩ := HX3.out.cells
  have fx := HX3.out.frozen
  have lx := HX3.out.lt
  clear hdr3 hq3 HX2 HB2
  go_wp2_with fail
  refine bodyPost_ret (v := .agg #[.int .i64 N3.k, .string N3.fr, .int .i64 N3.ix, .slice va N3.kids.len vc]) (by simp [results, Try.results10, go_sem, *]) rfl ?_
  exact drawn_set HD3.out.own (fun x hx => by have := HD3.out.ge x hx; omega) HD3.out.nd HB3.out HD3.out.fit (by have h1 := HD3.out.sz; have h2 := HDR.out.sz; omega) HQ3.out _ _ _ _
end Go.Proofs.Ytpjbffggeegdaaa.Lo

/- A tree in a box, in memory of its own. -/
namespace Go.Proofs.Ytpjbffggeegdaaa.Lo
open Go.RowKit

/-- A tree in a box, in memory of its own. -/
structure Nv (w : World) (b : Nat) (g : Nd) (u : Value) : Prop where
  box : Box4 w b (.int .i64 g.k) (.string g.fr) (.int .i64 g.ix) u
  own : ∃ bs, Ow w u g.kids bs
theorem Nv.sl {w : World} {b : Nat} {g : Nd} {u : Value} (h : Nv w b g u) : Sl w u g.kids := by
  obtain ⟨bs, h⟩ := h.own
  exact h.sl
theorem Nv.below {w w' : World} {b : Nat} {g : Nd} {u : Value} (h : Nv w b g u) (hb : Below w.heap.size w w') : Nv w' b g u := by
  obtain ⟨bs, h2⟩ := h.own
  exact ⟨h.box.below hb, bs, h2.same (Same.of_below hb h2.lt)⟩
theorem Nv.drew {w : World} {b : Nat} {g : Nd} {u : Value} (h : Nv w b g u) : Nv w.drew b g u := h.below (Below.refl _ _).drew
theorem Nv.lt {w : World} {b : Nat} {g : Nd} {u : Value} (h : Nv w b g u) : b < w.heap.size := h.box.lt
/-- A new box. -/
theorem Nv.now {w : World} {g : Nd} {u : Value} {bs : List Nat} (h : Ow w u g.kids bs) (t : TypeId) : Nv (w.alloc (.cells #[.int .i64 g.k, .string g.fr, .int .i64 g.ix, u] t)) w.heap.size g u :=
  ⟨Box4.now w _ _ _ _ t, bs, h.same (Same.of_below (alloc_below w _) h.lt)⟩
end Go.Proofs.Ytpjbffggeegdaaa.Lo

/- l2Count and LocalValid of the model over trees of any size, if what is valid is not too large. -/
namespace Go.Proofs.Ytpjbffggeegdaaa.Lo
open Go.RowKit

def CntBigAt (M : Nat) (n : Nat) : Prop := ∀ (w : World) (k ix d : Int) (fr : ByteArray) (sv : Value) (kids : F), kids.sz < n → Sl w sv kids → kids.sz ≤ M → 0 ≤ d → d ≤ 40 →
  Calls Try.prog 26 #[.agg #[.int .i64 k, .string fr, .int .i64 ix, sv], .int .i64 d] w fun e w' => e = .returned (.int .i64 (cntN kids d : Nat)) ∧ Below w.heap.size w w'

set_option maxHeartbeats 800000 in
theorem cntBig_all (M : Nat) (hM : M ≤ 9000000000000000000) : ∀ n, CntBigAt M n := by
  intro n
  induction n with
  | zero => intro w k ix d fr sv kids hn; omega
  | succ n ih =>
    intro w k ix d fr sv kids hn hs hbig hd0 hd
    obtain ⟨a, cap, rfl, hlen, hat⟩ := hs.at
    have hb0 := alloc_below w (.cells #[.int .i64 k, .string fr, .int .i64 ix, .slice a kids.len cap] ( /- t -/ 25))
    obtain ⟨hc4, hsz⟩ := box4_now w (.int .i64 k) (.string fr) (.int .i64 ix) (.slice a kids.len cap) ( /- t -/ 25)
    have HA := hide (hat.still (Still.of_below hb0))
    unfold maxLen at hlen
    have HN := hide hn
    clear hs hat hn
    by_cases hd1 : 0 < d
    · go_enter Try.func26, Try.ntmps26
      go_wp2_with fail
      generalize (w.alloc (.cells #[.int .i64 k, .string fr, .int .i64 ix, .slice a kids.len cap] ( /- t -/ 25))) = W at *
      go_loopw [5, 6] (fun nv iv wr => ∃ (g : F) (k m : Nat), k + g.len = kids.len ∧ nv = .int .i64 m ∧ iv = .int .i64 k ∧ g.sz ≤ kids.sz ∧ At W a k g ∧ m + cntF g (d - 1) = 1 + cntF kids (d - 1) ∧ Below W.heap.size W wr) (fun _ iv _ => kids.len - (intOf iv).toNat)
      case atStart => exact ⟨kids, 0, 1, by omega, rfl, rfl, Nat.le_refl _, HA.out, rfl, Below.refl _ _⟩
      case round =>
        obtain ⟨g, k, m, hk, rfl, rfl, h5, hg, hv, hbw⟩ := hrel
        have e4 := (Still.of_below hbw) _ _ hc4
        have HVV := hide hv
        have HB := hide (hb0.trans (hbw.mono (Nat.le_of_lt hsz)))
        clear hv
        cases g with
        | nil =>
          have H5 : Hid (k = kids.len) := by unfold Hid; simpa [F.len] using hk
          have hge : kids.len ≤ k := Nat.le_of_eq H5.out.symm
          clear hk
          go_wp2_with fail
          go_ret
          refine ⟨ret_int ?_, HB.out⟩
          have := HVV.out
          unfold cntN
          rw [if_pos hd1]
          simp only [cntF] at this
          omega
        | cons lab kd fr' ix' kids' rest =>
          have HK : Hid (k + 1 + rest.len = kids.len) := by unfold Hid; simp only [F.len] at hk; omega
          have hlt : k < kids.len := by have := HK.out; omega
          have HZ : Hid (kids'.sz < n ∧ rest.sz ≤ kids.sz ∧ kids'.sz ≤ M) := by have := HN.out; unfold Hid; simp only [F.sz] at h5; omega
          have hm : m ≤ M + 1 := by have := HVV.out; have := cntF_le kids (d - 1); omega
          obtain ⟨b', o, rfl, _, _, _, _, q0, q1, q2, q3, ⟨sv', q4, hsv⟩, _⟩ := (hg.still (Still.of_below hbw)).head
          have HS := hide hsv
          have HG := hide hg
          clear hk h5 hg hsv
          go_wp2_with fail
          refine (ih wr kd ix' (d - 1) fr' sv' kids' HZ.out.1 HS.out HZ.out.2.2 (by omega) (by omega)).mono ?_
          rintro e w3 ⟨rfl, hb5⟩
          have hb7 := hbw.trans (hb5.mono hbw.size)
          clear hb5
          generalize hcn : cntN kids' (d - 1) = c at *
          have HC := hide hcn
          have hc : c ≤ M + 1 := by
            have h1 := HZ.out.2.2
            have h2 := cntF_le kids' (d - 1 - 1)
            rw [← hcn]
            unfold cntN
            split <;> omega
          have hmc : m + c ≤ M + 1 := by
            have h1 := HVV.out
            have h2 := cntF_le kids (d - 1)
            simp only [cntF] at h1
            unfold cntN at hcn
            omega
          clear hcn
          go_wp2_with fail
          refine ⟨⟨rest, k + 1, m + c, by have := HK.out; omega, by go_num, by go_num, HZ.out.2.1, HG.out.tail, ?_, hb7⟩, by simp [intOf]; omega⟩
          have h1 := HVV.out
          have h2 := HC.out
          simp only [cntF] at h1
          unfold cntN at h2
          omega
    · obtain rfl : d = 0 := by omega
      go_enter Try.func26, Try.ntmps26
      go_wp2_with fail
      generalize (w.alloc (.cells #[.int .i64 k, .string fr, .int .i64 ix, .slice a kids.len cap] ( /- t -/ 25))) = W at *
      go_loopw [5, 6] (fun nv iv wr => nv = .int .i64 1 ∧ iv = .int .i64 0 ∧ wr = W) (fun _ iv _ => kids.len - (intOf iv).toNat)
      case atStart => exact ⟨rfl, rfl, rfl⟩
      case round =>
        obtain ⟨rfl, rfl, rfl⟩ := hrel
        go_wp2_with fail
        all_goals go_ret
        all_goals exact ⟨rfl, hb0⟩

/-- l2Count of the model. -/
theorem cntBig_calls (M : Nat) (hM : M ≤ 9000000000000000000) (w : World) (k ix d : Int) (fr : ByteArray) (sv : Value) (kids : F) (hs : Sl w sv kids) (hbig : kids.sz ≤ M) (hd0 : 0 ≤ d) (hd : d ≤ 40) :
    Calls Try.prog 26 #[.agg #[.int .i64 k, .string fr, .int .i64 ix, sv], .int .i64 d] w fun e w' => e = .returned (.int .i64 (cntN kids d : Nat)) ∧ Below w.heap.size w w' :=
  cntBig_all M hM (kids.sz + 1) w k ix d fr sv kids (Nat.lt_succ_self _) hs hbig hd0 hd

set_option maxHeartbeats 400000 in
/-- LocalValid of the model, whatever the size, if it is bounded where the tree is valid. -/
theorem specValidBig (w : World) (k ix : Int) (fr : ByteArray) (sv : Value) (kids : F) (hs : Sl w sv kids) (hbig : vldN k fr ix kids 0 0 40 = true → kids.sz ≤ 160000000000000000) :
    Calls Try.prog 14 #[.agg #[.int .i64 k, .string fr, .int .i64 ix, sv]] w fun e w' => e = .returned (.bool (okN k fr ix kids)) ∧ Below w.heap.size w w' := by
  have HS := hide hs
  have HBIG := hide hbig
  clear hs hbig
  go_enter Try.func14, Try.ntmps14
  go_wp2_with fail
  refine (vld_calls _ k ix 0 0 40 fr sv kids (HS.out.still (Still.of_below (alloc_below _ _))) (by omega) (by omega) (by omega) (by omega) (by omega)).mono ?_
  rintro e w1 ⟨rfl, hb⟩
  have BX := (Box4.now w (.int .i64 k) (.string fr) (.int .i64 ix) sv ( /- t -/ 25)).below hb
  obtain ⟨c0, c1, c2, c3⟩ := BX.cells
  have hlt := BX.lt
  have hb2 := alloc_then hb
  clear BX
  clear hb
  cases hv : vldN k fr ix kids 0 0 40 with
  | false =>
    go_wp2_with fail
    go_ret
    exact ⟨ret_bool (by simp [okN, hv]), hb2⟩
  | true =>
    have HV := hide hv
    clear hv
    go_wp2_with fail
    refine (cntBig_calls 160000000000000000 (by omega) _ k ix 40 fr sv kids (HS.out.still (Still.of_below hb2)) (HBIG.out HV.out) (by omega) (by omega)).mono ?_
    rintro e w2 ⟨rfl, hb3⟩
    have hb4 := hb2.trans (hb3.mono hb2.size)
    rw [cntN_of_vld HV.out]
    clear hb3
    go_wp2_with fail
    go_ret
    refine ⟨ret_bool ?_, hb4⟩
    unfold okN
    rw [HV.out, Bool.true_and]
    show decide _ = _
    exact decide_eq_decide.2 (by omega)

end Go.Proofs.Ytpjbffggeegdaaa.Lo

/- What unfolding a local type gives. -/
namespace Go.Proofs.Ytpjbffggeegdaaa.Lo
open Go.RowKit

def okG (g : Nd) : Bool := okN g.k g.fr g.ix g.kids
theorem okG_w {g : Nd} (h : okG g = true) : wN g 0 0 = true ∧ hN g ≤ 40 ∧ g.kids.sz + 1 ≤ 400 := by
  unfold okG okN at h
  rw [vldN_w g 0 0 40 (by omega) (by omega)] at h
  simp only [Bool.and_eq_true, decide_eq_true_eq] at h
  exact ⟨h.1.1, by omega, h.2⟩
theorem okG_of_w {g : Nd} (h : wN g 0 0 = true) : okG g = (decide (hN g ≤ 40) && decide (g.kids.sz + 1 ≤ 400)) := by
  unfold okG okN
  rw [vldN_w g 0 0 40 (by omega) (by omega), h, Bool.true_and]
  congr 1
  apply decide_eq_decide.2
  omega

theorem unf_bound {g : Nd} (hw : wN g 0 0 = true) (hsz : g.kids.sz + 1 ≤ 400) (hv : vldN (unf g).k (unf g).fr (unf g).ix (unf g).kids 0 0 40 = true) : (unf g).kids.sz ≤ 160000000000000000 := by
  rw [vldN_w (unf g) 0 0 40 (by omega) (by omega)] at hv
  simp only [Bool.and_eq_true, decide_eq_true_eq] at hv
  have := unf_sz g hw hsz (by omega)
  omega

def zeroNd : Nd := ⟨0, ⟨#[]⟩, 0, .nil⟩
/-- Whether the unfolding is valid. -/
def unfOk (g : Nd) : Bool := okG g && okG (unf g)
/-- What UnfoldLocal gives. -/
def unfR (g : Nd) : Nd := if unfOk g then unf g else zeroNd
/-- A node in new memory, and a flag. -/
def MadeR (R : Nd) (ok : Bool) (w : World) (e : Ending) (w' : World) : Prop :=
  ∃ u bs, e = .returned (.tuple #[.agg #[.int .i64 R.k, .string R.fr, .int .i64 R.ix, u], .bool ok]) ∧ Ow w' u R.kids bs ∧ (∀ b, b ∈ bs → w.heap.size ≤ b) ∧ bs.Nodup ∧ Below w.heap.size w w'

theorem MadeR.zero {w w' : World} (h : Below w.heap.size w w') : MadeR zeroNd false w (.returned (.tuple #[.agg #[.int .i64 0, .string ⟨#[]⟩, .int .i64 0, .slice none 0 0], .bool false])) w' :=
  ⟨_, [], rfl, ⟨none, 0, rfl, Nat.le_refl _, Nat.zero_le _, Or.inl ⟨rfl, rfl⟩⟩, fun _ h => absurd h (List.not_mem_nil), List.nodup_nil, h⟩
end Go.Proofs.Ytpjbffggeegdaaa.Lo

/- UnfoldLocal of the model. -/
namespace Go.Proofs.Ytpjbffggeegdaaa.Lo
open Go.RowKit

set_option maxHeartbeats 2000000 in
set_option maxRecDepth 100000 in
theorem specUnf (w : World) (g : Nd) (sv : Value) (hs : Sl w sv g.kids) (hf : Fit g) (hbig : g.kids.sz ≤ 160000000000000000) :
    Calls Try.prog 7 #[.agg #[.int .i64 g.k, .string g.fr, .int .i64 g.ix, sv]] w (MadeR (unfR g) (unfOk g) w) := by
  have HS := hide hs
  have HF := hide hf
  have HBIG := hide hbig
  have hb0 := (alloc_below w (.cells #[.int .i64 g.k, .string g.fr, .int .i64 g.ix, sv] ( /- t -/ 25))).alloc (by simp) (.cells #[.int .i64 0, .string ⟨#[]⟩, .int .i64 0, .slice none 0 0] ( /- t -/ 25))
  have hx0 := (Box4.now w (.int .i64 g.k) (.string g.fr) (.int .i64 g.ix) sv ( /- t -/ 25)).below (alloc_below _ (.cells #[.int .i64 0, .string ⟨#[]⟩, .int .i64 0, .slice none 0 0] ( /- t -/ 25)))
  have hz0 := Box4.now (w.alloc (.cells #[.int .i64 g.k, .string g.fr, .int .i64 g.ix, sv] ( /- t -/ 25))) (.int .i64 0) (.string ⟨#[]⟩) (.int .i64 0) (.slice none 0 0) ( /- t -/ 25)
  rw [show (w.alloc (.cells #[.int .i64 g.k, .string g.fr, .int .i64 g.ix, sv] ( /- t -/ 25))).heap.size = w.heap.size + 1 from by simp] at hz0
  have HB0 := hide hb0
  have HX0 := hide hx0
  have HZ0 := hide hz0
  clear hs hf hb0 hx0 hz0 hbig
  go_enter Try.func7, Try.ntmps7
  go_wp2_with fail
  generalize (w.alloc (.cells #[.int .i64 g.k, .string g.fr, .int .i64 g.ix, sv] ( /- t -/ 25))).alloc (.cells #[.int .i64 0, .string ⟨#[]⟩, .int .i64 0, .slice none 0 0] ( /- t -/ 25)) = W at *
  refine (specValidBig W g.k g.ix g.fr sv g.kids (HS.out.still (Still.of_below HB0.out)) (fun _ => HBIG.out)).mono ?_
  rintro e w1 ⟨rfl, hb⟩
  have HX1 := hide (HX0.out.below hb)
  have HZ1 := hide (HZ0.out.below hb)
  have HB1 := hide (HB0.out.trans (hb.mono HB0.out.size))
  obtain ⟨x0, x1, x2, x3⟩ := HX1.out.cells
  have hxl := HX1.out.lt
  clear hb HX0 HZ0 HB0
  cases hok : okN g.k g.fr g.ix g.kids with
  | false =>
    have hr : unfOk g = false := by unfold unfOk okG; rw [hok]; rfl
    have HR := hide hr
    obtain ⟨z0, z1, z2, z3⟩ := HZ1.out.cells
    have fz := HZ1.out.frozen
    have hzl := HZ1.out.lt
    clear hok hr
    go_wp2_with fail
    refine bodyPost_ret (v := .tuple #[.agg #[.int .i64 0, .string ⟨#[]⟩, .int .i64 0, .slice none 0 0], .bool false]) (by simp [results, Try.results7, go_sem, *]) rfl ?_
    have e1 : unfR g = zeroNd := by unfold unfR; rw [HR.out]; rfl
    rw [HR.out, e1]
    refine MadeR.zero ?_
    repeat (refine Below.setCell ?_ (by first | (simp; done) | (simp; omega)) _)
    exact HB1.out
  | true =>
    have hg : okG g = true := hok
    obtain ⟨hw, hh, hsz⟩ := okG_w hg
    have HG := hide (And.intro hg (And.intro hw (And.intro hh hsz)))
    clear hok hg hw hh hsz
    go_wp2_with fail
    refine (unf_calls w1 g sv (HS.out.still (Still.of_below HB1.out)) HG.out.2.1 HG.out.2.2.1 HF.out).mono ?_
    rintro e w2 ⟨u, ks, rfl, how, -, -, hb2⟩
    obtain ⟨ua, uc, rfl⟩ := how.val
    have HO := hide how
    have HX2 := hide (HX1.out.below hb2)
    have HZ2 := hide (HZ1.out.below hb2)
    have HB2 := hide (HB1.out.trans (hb2.mono HB1.out.size))
    clear how hb2 x0 x1 x2 x3 hxl HX1 HZ1 HB1
    obtain ⟨x0, x1, x2, x3⟩ := HX2.out.cells
    have hxl := HX2.out.lt
    go_wp2_with fail
    refine (specValidBig w2 (unf g).k (unf g).ix (unf g).fr _ (unf g).kids HO.out.sl (fun hv => unf_bound HG.out.2.1 HG.out.2.2.2 hv)).mono ?_
    rintro e w3 ⟨rfl, hb3⟩
    have HX3 := hide (HX2.out.below hb3)
    have HZ3 := hide (HZ2.out.below hb3)
    have HB3 := hide (HB2.out.trans (hb3.mono HB2.out.size))
    clear hb3 x0 x1 x2 x3 hxl HX2 HZ2 HB2
    obtain ⟨x0, x1, x2, x3⟩ := HX3.out.cells
    have hxl := HX3.out.lt
    obtain ⟨z0, z1, z2, z3⟩ := HZ3.out.cells
    have fz := HZ3.out.frozen
    have hzl := HZ3.out.lt
    cases hok : okN (unf g).k (unf g).fr (unf g).ix (unf g).kids with
    | false =>
      have hr : unfOk g = false := by unfold unfOk; rw [show okG (unf g) = false from hok, Bool.and_false]
      have HR := hide hr
      clear hok hr
      go_wp2_with fail
      refine bodyPost_ret (v := .tuple #[.agg #[.int .i64 0, .string ⟨#[]⟩, .int .i64 0, .slice none 0 0], .bool false]) (by simp [results, Try.results7, go_sem, *]) rfl ?_
      have e1 : unfR g = zeroNd := by unfold unfR; rw [HR.out]; rfl
      rw [HR.out, e1]
      refine MadeR.zero ?_
      repeat (refine Below.setCell ?_ (by first | (simp; done) | (simp; omega)) _)
      exact HB3.out
    | true =>
      have hr : unfOk g = true := by unfold unfOk; rw [show okG (unf g) = true from hok, HG.out.1]; rfl
      have HR := hide hr
      clear hok hr z0 z1 z2 z3 fz hzl
      go_wp2_with fail
      refine (unf_calls w3 g sv (HS.out.still (Still.of_below HB3.out)) HG.out.2.1 HG.out.2.2.1 HF.out).mono ?_
      rintro e w4 ⟨u4, ks4, rfl, how4, hks4, hnd4, hb4⟩
      obtain ⟨va, vc, rfl⟩ := how4.val
      have HZ4 := HZ3.out.below hb4
      have hbx := HB3.out.trans (hb4.mono HB3.out.size)
      obtain ⟨z0, z1, z2, z3⟩ := HZ4.cells
      have fz := HZ4.frozen
      have hzl := HZ4.lt
      have HO4 := hide how4
      have HK4 := hide hks4
      have HB4 := hide hbx
      have hl3 := HZ3.out.lt
      clear how4 hks4 hb4 HZ4 hbx x0 x1 x2 x3 hxl
      go_wp2_with fail
      refine bodyPost_ret (v := .tuple #[.agg #[.int .i64 (unf g).k, .string (unf g).fr, .int .i64 (unf g).ix, .slice va (unf g).kids.len vc], .bool true]) (by simp [results, Try.results7, go_sem, *]) rfl ?_
      have e1 : unfR g = unf g := by unfold unfR; rw [HR.out]; rfl
      rw [HR.out, e1]
      have q : ∀ b, b ∈ ks4 → w.heap.size + 1 < b := fun b h => by have := HK4.out b h; omega
      refine ⟨_, ks4, rfl, HO4.out.same ?_, fun b h => by have := q b h; omega, hnd4, ?_⟩
      · repeat (refine Same.setCell ?_ (fun b h => by have := q b h; simp; omega) _)
        exact Same.refl _ _
      · repeat (refine Below.setCell ?_ (by first | (simp; done) | (simp; omega)) _)
        exact HB4.out

end Go.Proofs.Ytpjbffggeegdaaa.Lo

/- The recursions around a linked node, as trees: the environment in which a linked node is written out again. -/
namespace Go.Proofs.Ytpjbffggeegdaaa.Lo
open Go.RowKit

/-- The blocks of the recursions, the outermost first; the list has the innermost first. -/
def blks (es : List (Nat × Nd)) : List Nat := (es.map Prod.fst).reverse
theorem blks_cons (b : Nat) (g : Nd) (es : List (Nat × Nd)) : blks ((b, g) :: es) = blks es ++ [b] := by
  simp [blks]
theorem blks_len (es : List (Nat × Nd)) : (blks es).length = es.length := by simp [blks]
theorem blks_mem {es : List (Nat × Nd)} {b : Nat} (h : b ∈ blks es) : ∃ g, (b, g) ∈ es := by
  simp only [blks, List.mem_reverse, List.mem_map] at h
  obtain ⟨⟨b', g⟩, h1, rfl⟩ := h
  exact ⟨g, h1⟩

/-- What stands for the recursions when they are written out. -/
def lvals : List (Nat × Nd) → List (Option Nd)
  | [] => []
  | (_, g) :: es => some (cpN (lvals es) g) :: lvals es
/-- .. and the innermost m of them are around. -/
def lenv : Nat → List (Nat × Nd) → List (Option Nd)
  | 0, es => lvals es
  | _ + 1, [] => []
  | m + 1, _ :: es => none :: lenv m es
theorem lvals_len : ∀ es, (lvals es).length = es.length
  | [] => rfl
  | (_, _) :: es => by simp [lvals, lvals_len es]
theorem lenv_len : ∀ m es, (lenv m es).length = es.length
  | 0, es => lvals_len es
  | _ + 1, [] => rfl
  | m + 1, _ :: es => by simp [lenv, lenv_len m es]
theorem lenv_in : ∀ (m i : Nat) (es : List (Nat × Nd)), i < m → i < es.length → ((lenv m es)[i]?).join = none
  | 0, _, _, h, _ => by omega
  | _ + 1, _, [], _, h => by simp at h
  | m + 1, 0, _ :: es, _, _ => rfl
  | m + 1, i + 1, _ :: es, h, h2 => by
    have := lenv_in m i es (by omega) (by simp at h2; omega)
    simpa [lenv] using this
theorem lenv_out : ∀ (m : Nat) (p : List (Nat × Nd)) (b : Nat) (g : Nd) (t : List (Nat × Nd)), m ≤ p.length → ((lenv m (p ++ (b, g) :: t))[p.length]?).join = some (cpN (lvals t) g)
  | 0, [], b, g, t, _ => rfl
  | 0, (b', g') :: p, b, g, t, _ => by
    have := lenv_out 0 p b g t (by omega)
    simpa [lenv, lvals] using this
  | m + 1, [], b, g, t, h => by simp at h
  | m + 1, (b', g') :: p, b, g, t, h => by
    have := lenv_out m p b g t (by simp at h; omega)
    simpa [lenv] using this

/-- Every recursion of the environment is linked in its place. -/
def EnvL (w0 : World) : List (Nat × Nd) → Prop
  | [] => True
  | (b, g) :: es => g.k = 4 ∧ wN g (es.length : Int) 0 = true ∧
      (∃ ks, LkN w0 g.k g.fr g.ix g.kids (blks es) (.iface ( /- t -/ 56) (.pointer (some ⟨b, 0, none⟩))) ks) ∧ b ∉ blks es ∧ EnvL w0 es

theorem EnvL.suffix {w0 : World} : ∀ (p es : List (Nat × Nd)), EnvL w0 (p ++ es) → EnvL w0 es
  | [], _, h => h
  | (_, _) :: p, es, h => EnvL.suffix p es h.2.2.2.2
theorem EnvL.nodup {w0 : World} : ∀ (es : List (Nat × Nd)), EnvL w0 es → (blks es).Nodup
  | [], _ => List.nodup_nil
  | (b, g) :: es, h => by
    rw [blks_cons]
    exact nodup_snoc (EnvL.nodup es h.2.2.2.2) h.2.2.2.1
theorem EnvL.below {w0 w : World} (hb : Same w0 w (List.range w0.heap.size)) : ∀ (es : List (Nat × Nd)), EnvL w0 es → EnvL w es
  | [], _ => trivial
  | (b, g) :: es, h => by
    obtain ⟨h1, h2, ⟨ks, h3⟩, h4, h5⟩ := h
    exact ⟨h1, h2, ⟨ks, h3.same (fun x hx => hb x (List.mem_range.2 (h3.lt x hx)))⟩, h4, EnvL.below hb es h5⟩
theorem EnvL.blk {w0 : World} : ∀ (es : List (Nat × Nd)), EnvL w0 es → ∀ x, x ∈ blks es → ∃ cs, Blk w0 x cs
  | [], _, x, hx => by simp [blks] at hx
  | (b, g) :: es, h, x, hx => by
    obtain ⟨h1, h2, ⟨ks, h3⟩, h4, h5⟩ := h
    rw [blks_cons, List.mem_append] at hx
    rcases hx with hx | hx
    · exact EnvL.blk es h5 x hx
    · rw [List.mem_singleton.1 hx]
      rcases h3 with ⟨h3, -⟩ | ⟨h3, -⟩ | ⟨-, L, s, u, ks', h3, hb, -⟩ | ⟨h3, -⟩
      · omega
      · omega
      · injection h3 with _ h3
        injection h3 with h3
        injection h3 with h3
        injection h3 with h3
        subst h3
        exact ⟨_, hb⟩
      · omega

theorem empty_of {fr : ByteArray} (h : fr.toList = []) : fr = ⟨#[]⟩ := by
  rw [ByteArray.toList_eq] at h
  cases fr with
  | mk d =>
    have h2 : d = #[] := by simpa using h
    rw [h2]
theorem empty_size {fr : ByteArray} (h : fr.toList = []) : fr.size ≤ maxLen := by
  rw [empty_of h]
  exact Nat.zero_le _
theorem int_wf {x : Int} (h0 : 0 ≤ x) (h1 : x ≤ 1000000000) : (Lit.int .i64 x).wf = true := by
  have e1 : IntKind.i64.min = -9223372036854775808 := rfl
  have e2 : IntKind.i64.max = 9223372036854775807 := rfl
  simp only [Lit.wf, Bool.and_eq_true, decide_eq_true_eq]
  rw [e1, e2]
  omega

/-- A node that fits its place fits into values. -/
theorem fit_of_w {g : Nd} {b u : Int} (h : wN g b u = true) (hu : 0 ≤ u) (hb : b ≤ 1000000) : Fit g := by
  unfold wN at h
  simp only [Bool.and_eq_true] at h
  obtain ⟨h1, h2⟩ := h
  have h0 : (Lit.int .i64 0).wf = true := by decide
  by_cases k1 : g.k = 1
  · rw [k1] at h1
    obtain ⟨a, c, -⟩ := shape_end h1
    refine ⟨empty_size a, by rw [k1]; decide, by rw [c]; exact h0⟩
  by_cases k2 : g.k = 2 ∨ g.k = 3
  · obtain ⟨a, c, -⟩ := shape_act k2 h1
    refine ⟨by rw [role_size a]; decide, by rcases k2 with e | e <;> rw [e] <;> decide, by rw [c]; exact h0⟩
  by_cases k4 : g.k = 4
  · rw [k4] at h1
    obtain ⟨a, c, -⟩ := shape_rec h1
    refine ⟨empty_size a, by rw [k4]; decide, by rw [c]; exact h0⟩
  by_cases k5 : g.k = 5
  · rw [k5] at h1
    obtain ⟨a, -⟩ := shape_var h1
    rw [if_pos k5] at h2
    simp only [Bool.and_eq_true, decide_eq_true_eq] at h2
    refine ⟨empty_size a, by rw [k5]; decide, ?_⟩
    exact int_wf (by omega) (by omega)
  · simp [shapeB, k1, k2, k4, k5] at h1

theorem EnvL.fits {w0 : World} : ∀ (es : List (Nat × Nd)), EnvL w0 es → es.length ≤ 1000000 → ∀ U, some U ∈ lvals es → Fit U
  | [], _, _, U, hU => by simp [lvals] at hU
  | (b, g) :: es, h, hl, U, hU => by
    obtain ⟨h1, h2, -, -, h5⟩ := h
    have hl2 : es.length ≤ 1000000 := by simp at hl; omega
    simp only [lvals, List.mem_cons, Option.some.injEq] at hU
    rcases hU with rfl | hU
    · exact cpN_fit (EnvL.fits es h5 hl2) (fit_of_w h2 (by omega) (by omega))
    · exact EnvL.fits es h5 hl2 U hU
theorem EnvL.fitsM {w0 : World} : ∀ (m : Nat) (es : List (Nat × Nd)), EnvL w0 es → es.length ≤ 1000000 → ∀ U, some U ∈ lenv m es → Fit U
  | 0, es, h, hl, U, hU => EnvL.fits es h hl U hU
  | _ + 1, [], _, _, U, hU => by simp [lenv] at hU
  | m + 1, (b, g) :: es, h, hl, U, hU => by
    simp only [lenv, List.mem_cons, reduceCtorEq, false_or] at hU
    exact EnvL.fitsM m es h.2.2.2.2 (by simp at hl; omega) U hU

/-- A linked variable is linked to its recursion. -/
theorem linked_var {w0 : World} {fr : ByteArray} {ix : Int} {kids : F} {es : List (Nat × Nd)} {v : Value} {ks : List Nat} (h : LkN w0 5 fr ix kids (blks es) v ks) :
    ∃ p b g t, es = p ++ (b, g) :: t ∧ ix = (p.length : Nat) ∧ v = .iface ( /- t -/ 60) (.agg #[.pointer (some ⟨b, 0, none⟩)]) := by
  rcases h with ⟨h, -⟩ | ⟨-, ⟨l, h0, h1, h2, rfl⟩, -⟩ | ⟨h, -⟩ | ⟨h, -⟩
  · exact absurd h (by decide)
  · obtain ⟨i, rfl⟩ := Int.eq_ofNat_of_zero_le h0
    rw [blks_len] at h1 h2
    have hi : i < es.length := by omega
    simp only [Int.toNat_natCast] at h2
    have h3 : (es.map Prod.fst)[i]? = some l := by
      unfold blks at h2
      rw [List.getElem?_reverse (by simp; omega)] at h2
      simp only [List.length_map] at h2
      rwa [show es.length - 1 - (es.length - 1 - i) = i by omega] at h2
    rw [List.getElem?_map, List.getElem?_eq_getElem hi] at h3
    have h4 : es[i].1 = l := by simpa using h3
    refine ⟨es.take i, es[i].1, es[i].2, es.drop (i + 1), ?_, ?_, ?_⟩
    · rw [show (es[i].1, es[i].2) = es[i] from rfl]
      rw [List.getElem_cons_drop hi]
      exact (List.take_append_drop i es).symm
    · rw [List.length_take]; omega
    · rw [h4]
  · exact absurd h (by decide)
  · rcases h with h | h <;> exact absurd h (by decide)

theorem nodup_rev {l : List Nat} : l.reverse.Nodup ↔ l.Nodup := by
  unfold List.Nodup
  rw [List.pairwise_reverse]
  constructor
  · exact fun h => h.imp Ne.symm
  · exact fun h => h.imp Ne.symm

/-! ### The scope holds the innermost m of them -/
theorem scope_in (p : List (Nat × Nd)) (b : Nat) (g : Nd) (t : List (Nat × Nd)) (m : Nat) (h : p.length < m) (hm : m ≤ (p ++ (b, g) :: t).length) :
    (blks ((p ++ (b, g) :: t).take m))[m - 1 - p.length]? = some b ∧ (blks ((p ++ (b, g) :: t).take m)).length = (m - 1 - p.length) + 1 + p.length := by
  have hl : ((p ++ (b, g) :: t).take m).length = m := by rw [List.length_take]; omega
  refine ⟨?_, by rw [blks_len, hl]; omega⟩
  unfold blks
  rw [List.getElem?_reverse (by rw [List.length_map, hl]; omega), List.length_map, hl, show m - 1 - (m - 1 - p.length) = p.length by omega, List.getElem?_map, List.getElem?_take_of_lt h, List.getElem?_append_right (Nat.le_refl _)]
  simp
theorem scope_out {w0 : World} (p : List (Nat × Nd)) (b : Nat) (g : Nd) (t : List (Nat × Nd)) (m : Nat) (h : m ≤ p.length) (he : EnvL w0 (p ++ (b, g) :: t)) : b ∉ blks ((p ++ (b, g) :: t).take m) := by
  intro hb
  have hnd := he.nodup
  rw [List.take_append_of_le_length h] at hb
  have hb2 : b ∈ p.map Prod.fst := by
    simp only [blks, List.mem_reverse, List.mem_map] at hb ⊢
    obtain ⟨x, hx, rfl⟩ := hb
    exact ⟨x, List.mem_of_mem_take hx, rfl⟩
  unfold blks at hnd
  rw [nodup_rev, List.map_append, List.nodup_append] at hnd
  exact hnd.2.2 b hb2 b (by simp) rfl
theorem scope_nodup {w0 : World} (es : List (Nat × Nd)) (m : Nat) (he : EnvL w0 es) : (blks (es.take m)).Nodup := by
  have := he.nodup
  unfold blks at this ⊢
  rw [nodup_rev] at this ⊢
  rw [List.map_take]
  exact this.sublist (List.take_sublist _ _)
theorem scope_mem {es : List (Nat × Nd)} {m x : Nat} (h : x ∈ blks (es.take m)) : x ∈ blks es := by
  simp only [blks, List.mem_reverse, List.mem_map] at h ⊢
  obtain ⟨y, hy, rfl⟩ := h
  exact ⟨y, List.mem_of_mem_take hy, rfl⟩
theorem scope_len (es : List (Nat × Nd)) (m : Nat) (h : m ≤ es.length) : (blks (es.take m)).length = m := by
  rw [blks_len, List.length_take]; omega
end Go.Proofs.Ytpjbffggeegdaaa.Lo

/- unlinkNode of the program: what it owes, and the values of the written tree. -/
namespace Go.Proofs.Ytpjbffggeegdaaa.Lo
open Go.RowKit

theorem Box4.only {w w' : World} {b c : Nat} {v0 v1 v2 v3 : Value} (h : Box4 w b v0 v1 v2 v3) (ho : Only c w w') (hb : b ≠ c) : Box4 w' b v0 v1 v2 v3 := h.same (ho.block _ h.lt hb)
theorem Gr.only {w w' : World} {base c : Nat} {v : Value} {f : F} {bs : List Nat} (h : Gr w base v f bs) (ho : Only c w w') (hc : c < base) : Gr w' base v f bs :=
  h.same (fun b hb => ho.block b (h.lt b hb) (by have := h.ge b hb; omega))
theorem Pt.only {w w' : World} {c : Nat} {a : Int} (hc : Ctr w c a) (ho : Only c w w') {v : Value} {ps : List Nat} (h : Pt w v ps) : Pt w' v ps := by
  rcases h with h | ⟨b, cap, cs, h1, h2, h3, h4, h5, h6⟩
  · exact Or.inl h
  · refine Or.inr ⟨b, cap, cs, h1, h2, h3, h4, ?_, h6⟩
    have hne : b ≠ c := by
      rintro rfl
      obtain ⟨t, hh⟩ := hc
      rw [h5] at hh
      injection hh with hh
      injection hh with hh
      cases ps with
      | nil => exact absurd rfl h1
      | cons l ps =>
        have := h6 0 l rfl
        rw [hh] at this
        simp at this
    rw [ho.block b (Array.getElem?_eq_some_iff.1 h5).1 hne]
    exact h5

/-- What unlinkNode owes: the tree in new memory and its nodes counted, if it keeps the limits; else nothing. -/
def CpPost (c : Nat) (N : Nd) (d : Int) (a : Nat) (w : World) (e : Ending) (w' : World) : Prop :=
  ∃ a' : Nat, Only c w w' ∧ Ctr w' c a' ∧
    ((a + (N.kids.sz + 1) ≤ 400 ∧ d + (hF N.kids : Int) ≤ 40 ∧ a' = a + (N.kids.sz + 1) ∧ ∃ u bs, e = .returned (.tuple #[.agg #[.int .i64 N.k, .string N.fr, .int .i64 N.ix, u], .bool true]) ∧ Ow w' u N.kids bs ∧ (∀ b, b ∈ bs → w.heap.size ≤ b) ∧ bs.Nodup) ∨
     (¬ (a + (N.kids.sz + 1) ≤ 400 ∧ d + (hF N.kids : Int) ≤ 40) ∧ e = .returned (.tuple #[.agg #[.int .i64 0, .string ⟨#[]⟩, .int .i64 0, .slice none 0 0], .bool false])))

theorem CpPost.no {c : Nat} {N : Nd} {d : Int} {a a' : Nat} {w w' : World} (ho : Only c w w') (hc : Ctr w' c a') (h : ¬ (a + (N.kids.sz + 1) ≤ 400 ∧ d + (hF N.kids : Int) ≤ 40)) :
    CpPost c N d a w (.returned (.tuple #[.agg #[.int .i64 0, .string ⟨#[]⟩, .int .i64 0, .slice none 0 0], .bool false])) w' := ⟨a', ho, hc, Or.inr ⟨h, rfl⟩⟩
theorem CpPost.yes {c : Nat} {N : Nd} {d : Int} {a a' : Nat} {w w' : World} {u : Value} {bs : List Nat} (ho : Only c w w') (hc : Ctr w' c a') (h1 : a + (N.kids.sz + 1) ≤ 400) (h2 : d + (hF N.kids : Int) ≤ 40) (h3 : a' = a + (N.kids.sz + 1))
    (how : Ow w' u N.kids bs) (hge : ∀ b, b ∈ bs → w.heap.size ≤ b) (hnd : bs.Nodup) {k ix : Int} {fr : ByteArray} (hk : k = N.k) (hf : fr = N.fr) (hi : ix = N.ix) :
    CpPost c N d a w (.returned (.tuple #[.agg #[.int .i64 k, .string fr, .int .i64 ix, u], .bool true])) w' :=
  ⟨a', ho, hc, Or.inl ⟨h1, h2, h3, u, bs, by rw [hk, hf, hi], how, hge, hnd⟩⟩
/-- The same from a later world on. -/
theorem CpPost.later {c : Nat} {N : Nd} {d : Int} {a : Nat} {w0 w : World} {e : Ending} {w' : World} (h : CpPost c N d a w e w') (hb : Only c w0 w) : CpPost c N d a w0 e w' := by
  obtain ⟨a', ho, hc, h⟩ := h
  refine ⟨a', hb.trans ho, hc, ?_⟩
  rcases h with ⟨h1, h2, h3, u, bs, h4, h5, h6, h7⟩ | h
  · exact Or.inl ⟨h1, h2, h3, u, bs, h4, h5, fun b hm => Nat.le_trans hb.size (h6 b hm), h7⟩
  · exact Or.inr h

def UnAt (q n : Nat) : Prop := ∀ (w0 w : World) (c a : Nat) (dp un k ix : Int) (fr : ByteArray) (v lv : Value) (kids : F) (es : List (Nat × Nd)) (m : Nat) (ks : List Nat), kids.sz < n → es.length = q + m →
  LkN w0 k fr ix kids (blks es) v ks → EnvL w0 es → wN ⟨k, fr, ix, kids⟩ (es.length : Int) 0 = true → Below w0.heap.size w0 w → w0.heap.size ≤ c → Ctr w c a → a ≤ 400 → 1 ≤ dp → dp ≤ 41 → (m : Int) + 1 ≤ dp → 0 ≤ un → un + 1 ≤ dp → q ≤ 1000 →
  Pt w lv (blks (es.take m)) →
  Calls Try.prog 24 #[v, .agg #[.int .i64 dp, lv, .int .i64 un], .pointer (some ⟨c, 0, none⟩)] w (CpPost c (cpN (lenv m es) ⟨k, fr, ix, kids⟩) dp a w)

/-! ### The values -/
/-- A branch in its place. -/
theorem kid_act {k ix : Int} {fr : ByteArray} {kids : F} {b : Int} (hw : wN ⟨k, fr, ix, kids⟩ b 0 = true) (hk : k = 2 ∨ k = 3) {p rest : F} {lab : ByteArray} {kd ix' : Int} {fr' : ByteArray} {kids' : F}
    (he : kids = p.app (.cons lab kd fr' ix' kids' rest)) : wN ⟨kd, fr', ix', kids'⟩ b 0 = true := by
  unfold wN at hw
  simp only [Bool.and_eq_true] at hw
  obtain ⟨h1, h2⟩ := hw
  rw [if_neg (by omega), if_neg (by omega), if_pos hk, he, wF_app] at h2
  simp only [wF, Bool.and_eq_true] at h2
  unfold wN
  simp only [Bool.and_eq_true]
  exact h2.2.1
/-- A label of an action is one letter. -/
theorem lab_act {k ix : Int} {fr : ByteArray} {kids : F} {b : Int} (hw : wN ⟨k, fr, ix, kids⟩ b 0 = true) (hk : k = 2 ∨ k = 3) {p rest : F} {lab : ByteArray} {kd ix' : Int} {fr' : ByteArray} {kids' : F}
    (he : kids = p.app (.cons lab kd fr' ix' kids' rest)) : lab.size = 1 := by
  unfold wN at hw
  simp only [Bool.and_eq_true] at hw
  obtain ⟨-, -, h3⟩ := shape_act hk hw.1
  have key : ∀ (p : F) (q : Option ByteArray), ascB q (p.app (.cons lab kd fr' ix' kids' rest)) = true → labB lab = true := by
    intro p
    induction p with
    | nil =>
      intro q h
      simp only [F.app, ascB, Bool.and_eq_true] at h
      exact h.1.1
    | cons l k2 f2 i2 c2 r2 _ ih =>
      intro q h
      simp only [F.app, ascB, Bool.and_eq_true] at h
      exact ih _ h.2
  have h4 : ascB none kids = true := by
    have := h3
    unfold branchesB at this
    simp only [Bool.and_eq_true] at this
    exact this.1
  rw [he] at h4
  exact lab_size (key p none h4)

end Go.Proofs.Ytpjbffggeegdaaa.Lo

/- Closed local types compared step by step: a recursion unfolded once, what two roots allow, the comparison to any depth. -/
namespace Go.Proofs.Ytpjbffggeegdaaa.Lo
open Go.RowKit

/-- A recursion at the root, unfolded once. -/
def once (T : Nd) : Nd :=
  match T.kids with
  | .cons _ k fr ix kids _ => subN T ⟨k, fr, ix, kids⟩ 0
  | .nil => T
/-- At most n recursions at the root unfolded, one after the other. -/
def iter : Nat → Nd → Nd
  | 0, T => T
  | n + 1, T => if T.k = 4 then iter n (once T) else T

theorem iter_stop {T : Nd} (h : T.k ≠ 4) : ∀ n, iter n T = T
  | 0 => rfl
  | n + 1 => by unfold iter; rw [if_neg h]

theorem iter_one : ∀ (n m : Nat) (T : Nd), (iter n T).k ≠ 4 → (iter m T).k ≠ 4 → iter n T = iter m T
  | 0, m, T, h, _ => (iter_stop h m).symm
  | n + 1, 0, T, _, h => iter_stop h (n + 1)
  | n + 1, m + 1, T, h1, h2 => by
    unfold iter at *
    by_cases h4 : T.k = 4
    · rw [if_pos h4] at *
      rw [if_pos h4] at *
      exact iter_one n m _ h1 h2
    · rw [if_neg h4, if_neg h4]

theorem nd_ext {a b : Nd} (h1 : a.k = b.k) (h2 : a.fr = b.fr) (h3 : a.ix = b.ix) (h4 : a.kids = b.kids) : a = b := by
  cases a
  cases b
  simp only at h1 h2 h3 h4
  subst h1 h2 h3 h4
  rfl

theorem once_cp {s : List (Option Nd)} {N : Nd} (hs : VaS s) (h4 : N.k = 4) {lab : ByteArray} {k : Int} {fr : ByteArray} {ix : Int} {kids : F} (hk : N.kids = .cons lab k fr ix kids .nil) (hw : wN N (s.length : Int) 0 = true) :
    once (cpN s N) = cpN (some (cpN s N) :: s) ⟨k, fr, ix, kids⟩ := by
  have h5 : N.k ≠ 5 := by omega
  have e : (cpN s N).kids = .cons lab (cpN (none :: s) ⟨k, fr, ix, kids⟩).k (cpN (none :: s) ⟨k, fr, ix, kids⟩).fr (cpN (none :: s) ⟨k, fr, ix, kids⟩).ix (cpN (none :: s) ⟨k, fr, ix, kids⟩).kids .nil := by
    rw [cpN_k h5]
    simp only [if_pos h4, hk]
    rw [cpF_cons]
    simp [cpF]
  obtain ⟨_, _, _, _, _, e2, hw2⟩ := rec_kid hw h4
  rw [hk] at e2
  injection e2 with _ e3 e4 e5 e6 _
  subst e3 e4 e5 e6
  have := sub_cpN (cpN s N) s hs.cl ⟨k, fr, ix, kids⟩ ((s.length : Int) + 1) (scN_of_w _ _ _ (by omega) hw2)
  unfold once
  rw [e]
  exact this

theorem iter_unf : ∀ (n : Nat) (s : List (Option Nd)) (N : Nd), VaS s → wN N (s.length : Int) (s.length : Int) = true → iter n (cpN s N) = unfN n s N
  | 0, s, N, _, _ => rfl
  | n + 1, s, N, hs, hw => by
    have h5 := not_var hw
    have hw0 := wN_u _ _ _ 0 hw (by omega)
    have hk : (cpN s N).k = N.k := by rw [cpN_k h5]
    unfold iter unfN
    rw [hk]
    by_cases h4 : N.k = 4
    · obtain ⟨lab, k, fr, ix, kids, e, hw2⟩ := rec_kid hw h4
      rw [if_pos h4, if_pos h4, e]
      simp only
      rw [once_cp hs h4 e hw0]
      refine iter_unf n _ _ ?_ ?_
      · intro x hx
        rcases List.mem_cons.1 hx with rfl | hx
        · exact ⟨_, rfl, cpN_w s hs N hw0⟩
        · exact hs x hx
      · rw [show (((some (cpN s N) :: s).length : Nat) : Int) = (s.length : Int) + 1 by simp]
        exact hw2
    · rw [if_neg h4, if_neg h4]

theorem va_nil : VaS [] := fun x hx => by simp at hx
theorem unf_iter {g : Nd} (hw : wN g 0 0 = true) : unf g = iter (g.kids.sz + 1) g := by
  have h := iter_unf (g.kids.sz + 1) [] g va_nil hw
  rw [cpN_nil] at h
  exact h.symm

theorem unfN_kk : ∀ (n : Nat) (s : List (Option Nd)) (N : Nd), wN N (s.length : Int) (s.length : Int) = true → N.kids.sz < n → (unfN n s N).k ≠ 4
  | 0, s, N, _, h => by omega
  | n + 1, s, N, hw, hn => by
    have h5 := not_var hw
    unfold unfN
    by_cases h4 : N.k = 4
    · obtain ⟨lab, k, fr, ix, kids, e, hw2⟩ := rec_kid hw h4
      rw [if_pos h4, e]
      simp only
      refine unfN_kk n _ _ ?_ ?_
      · rw [show (((some (cpN s N) :: s).length : Nat) : Int) = (s.length : Int) + 1 by simp]
        exact hw2
      · rw [e] at hn
        simp only [F.sz] at hn ⊢
        omega
    · rw [if_neg h4, cpN_k h5]
      exact h4
theorem unf_k {g : Nd} (hw : wN g 0 0 = true) : (unf g).k ≠ 4 := unfN_kk _ [] g hw (Nat.lt_succ_self _)
theorem unf_w {g : Nd} (hw : wN g 0 0 = true) : wN (unf g) 0 0 = true := unfN_w _ [] g va_nil hw

theorem once_w {T : Nd} (hw : wN T 0 0 = true) (h4 : T.k = 4) : wN (once T) 0 0 = true := by
  obtain ⟨lab, k, fr, ix, kids, e, hw2⟩ := rec_kid hw h4
  have h := once_cp (s := []) va_nil h4 e hw
  rw [cpN_nil] at h
  rw [h]
  have hv : VaS [some T] := fun x hx => by
    simp at hx
    exact ⟨T, hx, hw⟩
  exact cpN_w [some T] hv _ (wN_u _ _ _ 0 hw2 (by omega))

theorem unf_rec {T : Nd} (hw : wN T 0 0 = true) (h4 : T.k = 4) : unf T = unf (once T) := by
  have ho := once_w hw h4
  have h1 := unf_iter hw
  have h2 := unf_iter ho
  have k1 := unf_k hw
  have k2 := unf_k ho
  have e : iter (T.kids.sz + 1) T = iter T.kids.sz (once T) := by
    conv => lhs; unfold iter
    rw [if_pos h4]
  rw [h1, e, h2]
  rw [h1, e] at k1
  rw [h2] at k2
  exact iter_one _ _ _ k1 k2
theorem unf_stop {T : Nd} (hw : wN T 0 0 = true) (h4 : T.k ≠ 4) : unf T = T := by
  rw [unf_iter hw]
  exact iter_stop h4 _
theorem unf_twice {T : Nd} (hw : wN T 0 0 = true) : unf (unf T) = unf T := unf_stop (unf_w hw) (unf_k hw)

/-! ### What two roots allow -/

/-- The node behind a label. -/
def brF : F → List UInt8 → Option Nd
  | .nil, _ => none
  | .cons lab k fr ix kids rest, l => if lab.toList = l then some ⟨k, fr, ix, kids⟩ else brF rest l
/-- Every label of the one list is a label of the other. -/
def subsF : F → F → Bool
  | .nil, _ => true
  | .cons lab _ _ _ _ rest, g => (brF g lab.toList).isSome && subsF rest g
theorem subsF_iff : ∀ (f g : F), subsF f g = true ↔ ∀ l, (brF f l).isSome = true → (brF g l).isSome = true
  | .nil, g => by simp [subsF, brF]
  | .cons lab k fr ix kids rest, g => by
    simp only [subsF, Bool.and_eq_true, subsF_iff rest g, brF]
    constructor
    · rintro ⟨h1, h2⟩ l hl
      by_cases e : lab.toList = l
      · rw [← e]; exact h1
      · rw [if_neg e] at hl
        exact h2 l hl
    · intro h
      refine ⟨h _ (by rw [if_pos rfl]; rfl), fun l hl => h l ?_⟩
      by_cases e : lab.toList = l
      · rw [if_pos e]; rfl
      · rw [if_neg e]; exact hl

/-- Whether two unfolded roots fit: the same action, and the labels as the comparison asks. -/
def fitB (sub : Bool) (x y : Nd) : Bool :=
  (x.k == y.k) && ((x.fr.toList == y.fr.toList) && (if sub = true then (if x.k = 2 then subsF x.kids y.kids else subsF y.kids x.kids) else subsF x.kids y.kids && subsF y.kids x.kids))
/-- The comparison to the depth n. -/
def Sim (sub : Bool) : Nat → Nd → Nd → Prop
  | 0, _, _ => True
  | n + 1, a, b => fitB sub (unf a) (unf b) = true ∧ ∀ l u v, brF (unf a).kids l = some u → brF (unf b).kids l = some v → Sim sub n u v
def Like (sub : Bool) (a b : Nd) : Prop := ∀ n, Sim sub n a b
open Classical in
/-- Two closed valid types compared. -/
noncomputable def alikeB (sub : Bool) (a b : Nd) : Bool := decide (Like sub a b)
noncomputable def cmpB (sub : Bool) (a b : Nd) : Bool := okG a && (okG b && alikeB sub a b)
theorem alikeB_iff (sub : Bool) (a b : Nd) : alikeB sub a b = true ↔ Like sub a b := by simp [alikeB]

theorem subsF_refl (f : F) : subsF f f = true := (subsF_iff f f).2 fun _ h => h
theorem subsF_trans {f g h : F} (h1 : subsF f g = true) (h2 : subsF g h = true) : subsF f h = true :=
  (subsF_iff f h).2 fun l hl => (subsF_iff g h).1 h2 l ((subsF_iff f g).1 h1 l hl)
theorem fitB_refl (sub : Bool) (x : Nd) : fitB sub x x = true := by
  unfold fitB
  simp [subsF_refl]
theorem Sim.refl (sub : Bool) : ∀ (n : Nat) (a : Nd), Sim sub n a a
  | 0, _ => trivial
  | n + 1, a => ⟨fitB_refl sub _, fun l u v h1 h2 => by rw [h1] at h2; cases h2; exact Sim.refl sub n u⟩
theorem Like.refl (sub : Bool) (a : Nd) : Like sub a a := fun n => Sim.refl sub n a

theorem fitB_iff (sub : Bool) (x y : Nd) : fitB sub x y = true ↔ x.k = y.k ∧ x.fr.toList = y.fr.toList ∧ (if sub = true then (if x.k = 2 then subsF x.kids y.kids else subsF y.kids x.kids) else subsF x.kids y.kids && subsF y.kids x.kids) = true := by
  unfold fitB
  simp only [Bool.and_eq_true, beq_iff_eq]

theorem Sim.trans : ∀ (n : Nat) (a b c : Nd), Sim true n a b → Sim true n b c → Sim true n a c
  | 0, _, _, _, _, _ => trivial
  | n + 1, a, b, c, h1, h2 => by
    obtain ⟨f1, r1⟩ := h1
    obtain ⟨f2, r2⟩ := h2
    rw [fitB_iff] at f1 f2
    obtain ⟨k1, p1, s1⟩ := f1
    obtain ⟨k2, p2, s2⟩ := f2
    simp only [if_true] at s1 s2
    refine ⟨?_, fun l u v hu hv => ?_⟩
    · rw [fitB_iff]
      refine ⟨k1.trans k2, p1.trans p2, ?_⟩
      simp only [if_true]
      rw [← k1] at s2
      by_cases h : (unf a).k = 2
      · rw [if_pos h] at s1 s2 ⊢
        exact subsF_trans s1 s2
      · rw [if_neg h] at s1 s2 ⊢
        exact subsF_trans s2 s1
    · have hm : ∃ w, brF (unf b).kids l = some w := by
        rw [← k1] at s2
        by_cases h : (unf a).k = 2
        · rw [if_pos h] at s1
          have := (subsF_iff _ _).1 s1 l (by rw [hu]; rfl)
          exact Option.isSome_iff_exists.1 this
        · rw [if_neg h] at s2
          have := (subsF_iff _ _).1 s2 l (by rw [hv]; rfl)
          exact Option.isSome_iff_exists.1 this
      obtain ⟨m, hm⟩ := hm
      exact Sim.trans n u m v (r1 l u m hu hm) (r2 l m v hm hv)
theorem Like.trans {a b c : Nd} (h1 : Like true a b) (h2 : Like true b c) : Like true a c := fun n => Sim.trans n a b c (h1 n) (h2 n)

theorem Sim.symm : ∀ (n : Nat) (a b : Nd), Sim false n a b → Sim false n b a
  | 0, _, _, _ => trivial
  | n + 1, a, b, h => by
    obtain ⟨f1, r1⟩ := h
    rw [fitB_iff] at f1
    obtain ⟨k1, p1, s1⟩ := f1
    refine ⟨(fitB_iff _ _ _).2 ⟨k1.symm, p1.symm, ?_⟩, fun l u v hu hv => Sim.symm n v u (r1 l v u hv hu)⟩
    simp only [Bool.false_eq_true, if_false, Bool.and_eq_true] at s1 ⊢
    exact ⟨s1.2, s1.1⟩
theorem Like.symm {a b : Nd} (h : Like false a b) : Like false b a := fun n => Sim.symm n a b (h n)

theorem Sim.both : ∀ (n : Nat) (a b : Nd), Sim false n a b ↔ Sim true n a b ∧ Sim true n b a
  | 0, _, _ => by simp [Sim]
  | n + 1, a, b => by
    constructor
    · rintro ⟨f1, r1⟩
      rw [fitB_iff] at f1
      obtain ⟨k1, p1, s1⟩ := f1
      simp only [Bool.false_eq_true, if_false, Bool.and_eq_true] at s1
      refine ⟨⟨(fitB_iff _ _ _).2 ⟨k1, p1, ?_⟩, fun l u v hu hv => ((Sim.both n u v).1 (r1 l u v hu hv)).1⟩, ⟨(fitB_iff _ _ _).2 ⟨k1.symm, p1.symm, ?_⟩, fun l u v hu hv => ((Sim.both n v u).1 (r1 l v u hv hu)).2⟩⟩
      · simp only [if_true]
        split
        · exact s1.1
        · exact s1.2
      · simp only [if_true]
        split
        · exact s1.2
        · exact s1.1
    · rintro ⟨⟨f1, r1⟩, ⟨f2, r2⟩⟩
      rw [fitB_iff] at f1 f2
      obtain ⟨k1, p1, s1⟩ := f1
      obtain ⟨k2, p2, s2⟩ := f2
      simp only [if_true] at s1 s2
      refine ⟨(fitB_iff _ _ _).2 ⟨k1, p1, ?_⟩, fun l u v hu hv => (Sim.both n u v).2 ⟨r1 l u v hu hv, r2 l v u hv hu⟩⟩
      simp only [Bool.false_eq_true, if_false, Bool.and_eq_true]
      rw [k2] at s2
      by_cases h : (unf a).k = 2
      · rw [if_pos h] at s1 s2
        exact ⟨s1, s2⟩
      · rw [if_neg h] at s1 s2
        exact ⟨s2, s1⟩
theorem Like.both {a b : Nd} : Like false a b ↔ Like true a b ∧ Like true b a :=
  ⟨fun h => ⟨fun n => ((Sim.both n a b).1 (h n)).1, fun n => ((Sim.both n a b).1 (h n)).2⟩, fun h n => (Sim.both n a b).2 ⟨h.1 n, h.2 n⟩⟩

/-- Only the unfolded roots count. -/
theorem Sim.unf {sub : Bool} {a b c d : Nd} (h1 : Lo.unf a = Lo.unf c) (h2 : Lo.unf b = Lo.unf d) : ∀ n, Sim sub n a b → Sim sub n c d
  | 0, _ => trivial
  | n + 1, h => by
    unfold Sim at h ⊢
    rw [← h1, ← h2]
    exact h
theorem Like.unf {sub : Bool} {a b c d : Nd} (h1 : Lo.unf a = Lo.unf c) (h2 : Lo.unf b = Lo.unf d) (h : Like sub a b) : Like sub c d := fun n => Sim.unf h1 h2 n (h n)
/-- A pair is alike just if its roots fit and what follows each label of both is alike. -/
theorem Like.step {sub : Bool} {a b : Nd} : Like sub a b ↔ fitB sub (Lo.unf a) (Lo.unf b) = true ∧ ∀ l u v, brF (Lo.unf a).kids l = some u → brF (Lo.unf b).kids l = some v → Like sub u v :=
  ⟨fun h => ⟨(h 1).1, fun l u v hu hv n => (h (n + 1)).2 l u v hu hv⟩, fun h n => by
    cases n with
    | zero => trivial
    | succ n => exact ⟨h.1, fun l u v hu hv => h.2 l u v hu hv n⟩⟩

/-- What stands behind a label of a valid action is valid and closed. -/
theorem brF_w : ∀ (f : F) (b u : Int) (l : List UInt8) (g : Nd), wF f b u = true → brF f l = some g → wN g b u = true
  | .nil, _, _, _, _, _, h => by simp [brF] at h
  | .cons lab k fr ix kids rest, b, u, l, g, hw, h => by
    simp only [wF, Bool.and_eq_true] at hw
    simp only [brF] at h
    split at h
    · cases h
      unfold wN
      simp only [Bool.and_eq_true]
      exact hw.1
    · exact brF_w rest b u l g hw.2 h
end Go.Proofs.Ytpjbffggeegdaaa.Lo
