/- l1Count and GlobalValid of the model over trees of any size: what is valid has at most (3^40 - 1) / 2 nodes. -/
import Derived.Test.YtgcefippeokmcaaSc
namespace Go.Proofs.Ytgcefippeokmcaa
open Go.RowKit

/-- The nodes of a full tree of so many levels. -/
def pw : Nat → Nat
  | 0 => 0
  | n + 1 => 1 + 3 * pw n
theorem pw_mono : ∀ {a b : Nat}, a ≤ b → pw a ≤ pw b := by
  intro a b h
  induction h with
  | refl => exact Nat.le_refl _
  | step _ ih => simp only [pw]; omega
theorem pw40 : pw 40 = 6078832729528464400 := by decide +kernel
theorem shape_len3 {k : Int} {fr to : ByteArray} {ix : Int} {kids : F} (h : shapeB k fr to ix kids = true) : kids.len ≤ 3 := by
  unfold shapeB branchesB at h
  by_cases h1 : k = 1
  · simp [h1] at h
    omega
  · by_cases h2 : k = 2
    · simp [h2] at h
      omega
    · by_cases h3 : k = 3
      · simp [h3] at h
        omega
      · by_cases h4 : k = 4
        · simp [h4] at h
          omega
        · simp [h1, h2, h3, h4] at h
theorem vld_pw : ∀ (f : F) (b u : Int) (d : Nat), 0 ≤ u → vldF f b u (d : Int) = true → f.sz ≤ f.len * pw d := by
  intro f
  induction f with
  | nil => intro b u d _ _; simp [F.sz]
  | cons lab k fr to ix kids rest ihk ihr =>
    intro b u d hu h
    simp only [vldF, Bool.and_eq_true] at h
    obtain ⟨hn, hr⟩ := h
    rw [nodeB_shape _ _ _ _ _ _ _ _ hu] at hn
    simp only [Bool.and_eq_true, decide_eq_true_eq] at hn
    obtain ⟨⟨h1, h2⟩, h3⟩ := hn
    obtain ⟨e, rfl⟩ : ∃ e, d = e + 1 := ⟨d - 1, by omega⟩
    have hl := shape_len3 h2
    have hk : kids.sz ≤ kids.len * pw e := by
      have hz : kids = .nil → kids.sz ≤ kids.len * pw e := fun e => by subst e; simp [F.sz]
      rw [show (((e + 1 : Nat) : Int) - 1) = (e : Int) by omega] at h3
      by_cases h4 : k = 4
      · subst h4
        refine hz ?_
        simp [shapeB] at h2
        exact nil_of_len h2.2
      · rw [if_neg h4] at h3
        by_cases hk3 : k = 3
        · rw [if_pos hk3] at h3
          exact ihk _ _ _ (by omega) h3
        · rw [if_neg hk3] at h3
          by_cases hk2 : k = 2
          · rw [if_pos hk2] at h3
            exact ihk _ _ _ (by omega) h3
          · refine hz ?_
            by_cases hk1 : k = 1
            · subst hk1
              simp [shapeB] at h2
              exact nil_of_len h2.2
            · simp [shapeB, hk1, hk2, hk3, h4] at h2
    have hrr := ihr _ _ _ hu hr
    simp only [F.sz, F.len, pw] at *
    have : kids.len * pw e ≤ 3 * pw e := Nat.mul_le_mul_right _ hl
    rw [Nat.add_mul, Nat.one_mul]
    omega
theorem vldN_pw {k : Int} {fr to : ByteArray} {ix : Int} {kids : F} {b u : Int} (hu : 0 ≤ u) (h : vldN k fr to ix kids b u 40 = true) : kids.sz + 1 ≤ 6078832729528464400 := by
  obtain ⟨d, hd⟩ : ∃ d : Nat, d = 40 := ⟨_, rfl⟩
  have h2 := vld_pw (.cons ⟨#[]⟩ k fr to ix kids .nil) b u d hu (by rw [hd]; simp only [vldF, Bool.and_true]; exact h)
  obtain ⟨q, hq⟩ : ∃ q, pw d = q := ⟨_, rfl⟩
  have h3 : q = 6078832729528464400 := by rw [← hq, hd]; exact pw40
  rw [hq] at h2
  simp only [F.sz, F.len] at h2
  omega

def CntBigAt (M : Nat) (n : Nat) : Prop := ∀ (w : World) (k ix d : Int) (fr to : ByteArray) (sv : Value) (kids : F), kids.sz < n → Sl w sv kids → kids.sz ≤ M → 0 ≤ d → d ≤ 40 →
  Calls Try.prog 25 #[.agg #[.int .i64 k, .string fr, .string to, .int .i64 ix, sv], .int .i64 d] w fun e w' => e = .returned (.int .i64 (cntN kids d : Nat)) ∧ Below w.heap.size w w'

set_option maxHeartbeats 800000 in
theorem cntBig_all (M : Nat) (hM : M ≤ 9000000000000000000) : ∀ n, CntBigAt M n := by
  intro n
  induction n with
  | zero => intro w k ix d fr to sv kids hn; omega
  | succ n ih =>
    intro w k ix d fr to sv kids hn hs hbig hd0 hd
    obtain ⟨a, cap, rfl, hlen, hat⟩ := hs.at
    have hb0 := alloc_below w (.cells #[.int .i64 k, .string fr, .string to, .int .i64 ix, .slice a kids.len cap] ( /- t -/ 25))
    obtain ⟨hc4, hsz⟩ := box5_now w (.int .i64 k) (.string fr) (.string to) (.int .i64 ix) (.slice a kids.len cap) ( /- t -/ 25)
    have HA := hide (hat.still (Still.of_below hb0))
    unfold maxLen at hlen
    have HN := hide hn
    clear hs hat hn
    by_cases hd1 : 0 < d
    · go_enter Try.func25, Try.ntmps25
      go_wp2_with fail
      generalize (w.alloc (.cells #[.int .i64 k, .string fr, .string to, .int .i64 ix, .slice a kids.len cap] ( /- t -/ 25))) = W at *
      go_loopw [5, 6] (fun nv iv wr => ∃ (g : F) (k m : Nat), k + g.len = kids.len ∧ nv = .int .i64 m ∧ iv = .int .i64 k ∧ g.sz ≤ kids.sz ∧ At W a k g ∧ m + cntF g (d - 1) = 1 + cntF kids (d - 1) ∧ Below W.heap.size W wr) (fun _ iv _ => kids.len - (intOf iv).toNat)
      case atStart => exact ⟨kids, 0, 1, by omega, rfl, rfl, Nat.le_refl _, HA.out, rfl, Below.refl _ _⟩
      case round =>
        obtain ⟨g, k, m, hk, rfl, rfl, h5, hg, hv, hbw⟩ := hrel
        have e4 := (Still.of_below hbw) _ _ hc4
        have HVV := hide hv
        have HB := hide (hb0.trans (hbw.mono (Nat.le_of_lt hsz)))
        clear hv
        cases g with
        | nil =>
          have H5 : Hid (k = kids.len) := by unfold Hid; simpa [F.len] using hk
          have hge : kids.len ≤ k := Nat.le_of_eq H5.out.symm
          clear hk
          go_wp2_with fail
          go_ret
          refine ⟨ret_int ?_, HB.out⟩
          have := HVV.out
          unfold cntN
          rw [if_pos hd1]
          simp only [cntF] at this
          omega
        | cons lab kd fr' to' ix' kids' rest =>
          have HK : Hid (k + 1 + rest.len = kids.len) := by unfold Hid; simp only [F.len] at hk; omega
          have hlt : k < kids.len := by have := HK.out; omega
          have HZ : Hid (kids'.sz < n ∧ rest.sz ≤ kids.sz ∧ kids'.sz ≤ M) := by have := HN.out; unfold Hid; simp only [F.sz] at h5; omega
          have hm : m ≤ M + 1 := by have := HVV.out; have := cntF_le kids (d - 1); omega
          obtain ⟨b', o, rfl, _, _, _, _, _, q0, q1, q2, q3, q4, ⟨sv', q5, hsv⟩, _⟩ := (hg.still (Still.of_below hbw)).head
          have HS := hide hsv
          have HG := hide hg
          clear hk h5 hg hsv
          go_wp2_with fail
          refine (ih wr kd ix' (d - 1) fr' to' sv' kids' HZ.out.1 HS.out HZ.out.2.2 (by omega) (by omega)).mono ?_
          rintro e w3 ⟨rfl, hb5⟩
          have hb7 := hbw.trans (hb5.mono hbw.size)
          clear hb5
          generalize hcn : cntN kids' (d - 1) = c at *
          have HC := hide hcn
          have hc : c ≤ M + 1 := by
            have h1 := HZ.out.2.2
            have h2 := cntF_le kids' (d - 1 - 1)
            rw [← hcn]
            unfold cntN
            split <;> omega
          have hmc : m + c ≤ M + 1 := by
            have h1 := HVV.out
            have h2 := cntF_le kids (d - 1)
            simp only [cntF] at h1
            unfold cntN at hcn
            omega
          clear hcn
          go_wp2_with fail
          refine ⟨⟨rest, k + 1, m + c, by have := HK.out; omega, by go_num, by go_num, HZ.out.2.1, HG.out.tail, ?_, hb7⟩, by simp [intOf]; omega⟩
          have h1 := HVV.out
          have h2 := HC.out
          simp only [cntF] at h1
          unfold cntN at h2
          omega
    · obtain rfl : d = 0 := by omega
      go_enter Try.func25, Try.ntmps25
      go_wp2_with fail
      generalize (w.alloc (.cells #[.int .i64 k, .string fr, .string to, .int .i64 ix, .slice a kids.len cap] ( /- t -/ 25))) = W at *
      go_loopw [5, 6] (fun nv iv wr => nv = .int .i64 1 ∧ iv = .int .i64 0 ∧ wr = W) (fun _ iv _ => kids.len - (intOf iv).toNat)
      case atStart => exact ⟨rfl, rfl, rfl⟩
      case round =>
        obtain ⟨rfl, rfl, rfl⟩ := hrel
        go_wp2_with fail
        all_goals go_ret
        all_goals exact ⟨rfl, hb0⟩

/-- l1Count of the model. -/
theorem cntBig_calls (M : Nat) (hM : M ≤ 9000000000000000000) (w : World) (k ix d : Int) (fr to : ByteArray) (sv : Value) (kids : F) (hs : Sl w sv kids) (hbig : kids.sz ≤ M) (hd0 : 0 ≤ d) (hd : d ≤ 40) :
    Calls Try.prog 25 #[.agg #[.int .i64 k, .string fr, .string to, .int .i64 ix, sv], .int .i64 d] w fun e w' => e = .returned (.int .i64 (cntN kids d : Nat)) ∧ Below w.heap.size w w' :=
  cntBig_all M hM (kids.sz + 1) w k ix d fr to sv kids (Nat.lt_succ_self _) hs hbig hd0 hd

set_option maxHeartbeats 400000 in
/-- GlobalValid of the model, whatever the size. -/
theorem specValidBig (w : World) (k ix : Int) (fr to : ByteArray) (sv : Value) (kids : F) (hs : Sl w sv kids) :
    Calls Try.prog 9 #[.agg #[.int .i64 k, .string fr, .string to, .int .i64 ix, sv]] w fun e w' => e = .returned (.bool (okN k fr to ix kids)) ∧ Below w.heap.size w w' := by
  have HS := hide hs
  clear hs
  go_enter Try.func9, Try.ntmps9
  go_wp2_with fail
  refine (vld_calls _ k ix 0 0 40 fr to sv kids (HS.out.still (Still.of_below (alloc_below _ _))) (by omega) (by omega) (by omega) (by omega) (by omega)).mono ?_
  rintro e w1 ⟨rfl, hb⟩
  obtain ⟨c0, c1, c2, c3, c4, hlt, hb2⟩ := box5 hb
  clear hb
  cases hv : vldN k fr to ix kids 0 0 40 with
  | false =>
    go_wp2_with fail
    go_ret
    exact ⟨ret_bool (by simp [okN, hv]), hb2⟩
  | true =>
    have HV := hide hv
    clear hv
    go_wp2_with fail
    refine (cntBig_calls 6078832729528464400 (by omega) _ k ix 40 fr to sv kids (HS.out.still (Still.of_below hb2)) (by have := vldN_pw (by omega) HV.out; omega) (by omega) (by omega)).mono ?_
    rintro e w2 ⟨rfl, hb3⟩
    have hb4 := hb2.trans (hb3.mono hb2.size)
    rw [cntN_of_vld HV.out]
    clear hb3
    go_wp2_with fail
    go_ret
    refine ⟨ret_bool ?_, hb4⟩
    unfold okN
    rw [HV.out, Bool.true_and]
    show decide _ = _
    exact decide_eq_decide.2 (by omega)

end Go.Proofs.Ytgcefippeokmcaa
