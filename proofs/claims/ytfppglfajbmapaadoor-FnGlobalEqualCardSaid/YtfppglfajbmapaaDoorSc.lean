/- l1Count and GlobalValid of the model. -/
import Derived.Test.YtfppglfajbmapaaDoorSw
namespace Go.Proofs.YtfppglfajbmapaaDoor
open Go.RowKit

def CntAt (n : Nat) : Prop := ∀ (w : World) (k ix d : Int) (fr to : ByteArray) (sv : Value) (kids : F), kids.sz < n → Sl w sv kids → kids.sz ≤ 1048576 → 0 ≤ d → d ≤ 40 →
  Calls Tryd.prog 188 #[.agg #[.int .i64 k, .string fr, .string to, .int .i64 ix, sv], .int .i64 d] w fun e w' => e = .returned (.int .i64 (cntN kids d : Nat)) ∧ Below w.heap.size w w'

theorem box5_now (w : World) (v0 v1 v2 v3 v4 : Value) (t : TypeId) : (w.alloc (.cells #[v0, v1, v2, v3, v4] t)).cell? ⟨w.heap.size, 4, none⟩ = some v4 ∧ w.heap.size < (w.alloc (.cells #[v0, v1, v2, v3, v4] t)).heap.size :=
  ⟨(box5 (Below.refl _ _)).2.2.2.2.1, (box5 (Below.refl _ _)).2.2.2.2.2.1⟩

set_option maxHeartbeats 800000 in
theorem cnt_all : ∀ n, CntAt n := by
  intro n
  induction n with
  | zero => intro w k ix d fr to sv kids hn; omega
  | succ n ih =>
    intro w k ix d fr to sv kids hn hs hbig hd0 hd
    obtain ⟨a, cap, rfl, hlen, hat⟩ := hs.at
    have hb0 := alloc_below w (.cells #[.int .i64 k, .string fr, .string to, .int .i64 ix, .slice a kids.len cap] ( /- t -/ 25))
    obtain ⟨hc4, hsz⟩ := box5_now w (.int .i64 k) (.string fr) (.string to) (.int .i64 ix) (.slice a kids.len cap) ( /- t -/ 25)
    have HA := hide (hat.still (Still.of_below hb0))
    unfold maxLen at hlen
    have HN := hide hn
    clear hs hat hn
    by_cases hd1 : 0 < d
    · go_enter Tryd.func188, Tryd.ntmps188
      go_wp2_with fail
      generalize (w.alloc (.cells #[.int .i64 k, .string fr, .string to, .int .i64 ix, .slice a kids.len cap] ( /- t -/ 25))) = W at *
      go_loopw [5, 6] (fun nv iv wr => ∃ (g : F) (k m : Nat), k + g.len = kids.len ∧ nv = .int .i64 m ∧ iv = .int .i64 k ∧ g.sz ≤ kids.sz ∧ At W a k g ∧ m + cntF g (d - 1) = 1 + cntF kids (d - 1) ∧ Below W.heap.size W wr) (fun _ iv _ => kids.len - (intOf iv).toNat)
      case atStart => exact ⟨kids, 0, 1, by omega, rfl, rfl, Nat.le_refl _, HA.out, rfl, Below.refl _ _⟩
      case round =>
        obtain ⟨g, k, m, hk, rfl, rfl, h5, hg, hv, hbw⟩ := hrel
        have e4 := (Still.of_below hbw) _ _ hc4
        have HVV := hide hv
        have HB := hide (hb0.trans (hbw.mono (Nat.le_of_lt hsz)))
        clear hv
        cases g with
        | nil =>
          have H5 : Hid (k = kids.len) := by unfold Hid; simpa [F.len] using hk
          have hge : kids.len ≤ k := Nat.le_of_eq H5.out.symm
          clear hk
          go_wp2_with fail
          go_ret
          refine ⟨ret_int ?_, HB.out⟩
          have := HVV.out
          unfold cntN
          rw [if_pos hd1]
          simp only [cntF] at this
          omega
        | cons lab kd fr' to' ix' kids' rest =>
          have HK : Hid (k + 1 + rest.len = kids.len) := by unfold Hid; simp only [F.len] at hk; omega
          have hlt : k < kids.len := by have := HK.out; omega
          have HZ : Hid (kids'.sz < n ∧ rest.sz ≤ kids.sz ∧ kids'.sz ≤ 1048576) := by have := HN.out; unfold Hid; simp only [F.sz] at h5; omega
          have hm : m ≤ 1048577 := by have := HVV.out; have := cntF_le kids (d - 1); omega
          obtain ⟨b', o, rfl, _, _, _, _, _, q0, q1, q2, q3, q4, ⟨sv', q5, hsv⟩, _⟩ := (hg.still (Still.of_below hbw)).head
          have HS := hide hsv
          have HG := hide hg
          clear hk h5 hg hsv
          go_wp2_with fail
          refine (ih wr kd ix' (d - 1) fr' to' sv' kids' HZ.out.1 HS.out HZ.out.2.2 (by omega) (by omega)).mono ?_
          rintro e w3 ⟨rfl, hb5⟩
          have hb7 := hbw.trans (hb5.mono hbw.size)
          clear hb5
          generalize hcn : cntN kids' (d - 1) = c at *
          have HC := hide hcn
          have hc : c ≤ 1048577 := by
            have h1 := HZ.out.2.2
            have h2 := cntF_le kids' (d - 1 - 1)
            rw [← hcn]
            unfold cntN
            split <;> omega
          clear hcn
          go_wp2_with fail
          refine ⟨⟨rest, k + 1, m + c, by have := HK.out; omega, by go_num, by go_num, HZ.out.2.1, HG.out.tail, ?_, hb7⟩, by simp [intOf]; omega⟩
          have h1 := HVV.out
          have h2 := HC.out
          simp only [cntF] at h1
          unfold cntN at h2
          omega
    · obtain rfl : d = 0 := by omega
      go_enter Tryd.func188, Tryd.ntmps188
      go_wp2_with fail
      generalize (w.alloc (.cells #[.int .i64 k, .string fr, .string to, .int .i64 ix, .slice a kids.len cap] ( /- t -/ 25))) = W at *
      go_loopw [5, 6] (fun nv iv wr => nv = .int .i64 1 ∧ iv = .int .i64 0 ∧ wr = W) (fun _ iv _ => kids.len - (intOf iv).toNat)
      case atStart => exact ⟨rfl, rfl, rfl⟩
      case round =>
        obtain ⟨rfl, rfl, rfl⟩ := hrel
        go_wp2_with fail
        all_goals go_ret
        all_goals exact ⟨rfl, hb0⟩

/-- l1Count of the model. -/
theorem cnt_calls (w : World) (k ix d : Int) (fr to : ByteArray) (sv : Value) (kids : F) (hs : Sl w sv kids) (hbig : kids.sz ≤ 1048576) (hd0 : 0 ≤ d) (hd : d ≤ 40) :
    Calls Tryd.prog 188 #[.agg #[.int .i64 k, .string fr, .string to, .int .i64 ix, sv], .int .i64 d] w fun e w' => e = .returned (.int .i64 (cntN kids d : Nat)) ∧ Below w.heap.size w w' :=
  cnt_all (kids.sz + 1) w k ix d fr to sv kids (Nat.lt_succ_self _) hs hbig hd0 hd

set_option maxHeartbeats 400000 in
/-- GlobalValid of the model. -/
theorem specValid (w : World) (k ix : Int) (fr to : ByteArray) (sv : Value) (kids : F) (hs : Sl w sv kids) (hbig : kids.sz ≤ 1048576) :
    Calls Tryd.prog 169 #[.agg #[.int .i64 k, .string fr, .string to, .int .i64 ix, sv]] w fun e w' => e = .returned (.bool (okN k fr to ix kids)) ∧ Below w.heap.size w w' := by
  have HS := hide hs
  clear hs
  go_enter Tryd.func169, Tryd.ntmps169
  go_wp2_with fail
  refine (vld_calls _ k ix 0 0 40 fr to sv kids (HS.out.still (Still.of_below (alloc_below _ _))) (by omega) (by omega) (by omega) (by omega) (by omega)).mono ?_
  rintro e w1 ⟨rfl, hb⟩
  obtain ⟨c0, c1, c2, c3, c4, hlt, hb2⟩ := box5 hb
  clear hb
  cases hv : vldN k fr to ix kids 0 0 40 with
  | false =>
    go_wp2_with fail
    go_ret
    exact ⟨ret_bool (by simp [okN, hv]), hb2⟩
  | true =>
    have HV := hide hv
    clear hv
    go_wp2_with fail
    refine (cnt_calls _ k ix 40 fr to sv kids (HS.out.still (Still.of_below hb2)) hbig (by omega) (by omega)).mono ?_
    rintro e w2 ⟨rfl, hb3⟩
    have hb4 := hb2.trans (hb3.mono hb2.size)
    rw [cntN_of_vld HV.out]
    clear hb3
    go_wp2_with fail
    go_ret
    refine ⟨ret_bool ?_, hb4⟩
    unfold okN
    rw [HV.out, Bool.true_and]
    show decide _ = _
    exact decide_eq_decide.2 (by omega)

end Go.Proofs.YtfppglfajbmapaaDoor
