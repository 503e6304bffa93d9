/- When two trees are equal, as a Boolean; GlobalEqual of the model. -/
import Derived.Test.YtfppglfajbmapaaDoorQh
import Derived.Test.YtfppglfajbmapaaDoorSc
import Derived.StillTailTactics
namespace Go.Proofs.YtfppglfajbmapaaDoor
open Go.RowKit

theorem two_boxes (w : World) (v0 v1 v2 v3 v4 u0 u1 u2 u3 u4 : Value) (t : TypeId) :
    ((w.alloc (.cells #[v0, v1, v2, v3, v4] t)).alloc (.cells #[u0, u1, u2, u3, u4] t)).cell? ⟨w.heap.size, 4, none⟩ = some v4 ∧
    ((w.alloc (.cells #[v0, v1, v2, v3, v4] t)).alloc (.cells #[u0, u1, u2, u3, u4] t)).cell? ⟨w.heap.size + 1, 4, none⟩ = some u4 ∧
    ((w.alloc (.cells #[v0, v1, v2, v3, v4] t)).alloc (.cells #[u0, u1, u2, u3, u4] t)).heap.size = w.heap.size + 2 := by
  have h1 := (box5_now w v0 v1 v2 v3 v4 t).1
  have h2 := (box5_now (w.alloc (.cells #[v0, v1, v2, v3, v4] t)) u0 u1 u2 u3 u4 t).1
  have hs : (w.alloc (.cells #[v0, v1, v2, v3, v4] t)).heap.size = w.heap.size + 1 := by simp
  rw [hs] at h2
  refine ⟨?_, h2, by simp⟩
  exact (Still.of_below (alloc_below (w.alloc (.cells #[v0, v1, v2, v3, v4] t)) (.cells #[u0, u1, u2, u3, u4] t))) _ _ h1

def GeAt (n : Nat) : Prop := ∀ (w : World) (k ix k' ix' : Int) (fr to fr' to' : ByteArray) (sv sv' : Value) (f f' : F), f.sz < n → Sl w sv f → Sl w sv' f' →
  Calls Tryd.prog 12 #[.agg #[.int .i64 k, .string fr, .string to, .int .i64 ix, sv], .agg #[.int .i64 k', .string fr', .string to', .int .i64 ix', sv']] w fun e w' => e = .returned (.bool (sameN k fr to ix f k' fr' to' ix' f')) ∧ Below w.heap.size w w'

set_option maxHeartbeats 1600000 in
set_option maxRecDepth 100000 in
theorem ge_all : ∀ n, GeAt n := by
  intro n
  induction n with
  | zero => intro w k ix k' ix' fr to fr' to' sv sv' f f' hn; omega
  | succ n ih =>
    intro w k ix k' ix' fr to fr' to' sv sv' f f' hn hs hs'
    obtain ⟨a, cap, rfl, hlen, hat⟩ := hs.at
    obtain ⟨a', cap', rfl, hlen', hat'⟩ := hs'.at
    have hb0 := (alloc_below w (.cells #[.int .i64 k, .string fr, .string to, .int .i64 ix, .slice a f.len cap] ( /- t -/ 25))).alloc (by simp) (.cells #[.int .i64 k', .string fr', .string to', .int .i64 ix', .slice a' f'.len cap'] ( /- t -/ 25))
    have HA := hide (hat.still (Still.of_below hb0))
    have HA' := hide (hat'.still (Still.of_below hb0))
    unfold maxLen at hlen hlen'
    have HN := hide hn
    clear hs hat hn hs' hat'
    cases hh : headB k fr to ix f.len k' fr' to' ix' f'.len with
    | false =>
      have HH := hide hh
      clear hh
      go_enter Tryd.func12, Tryd.ntmps12
      go_wp2_with fail
      all_goals try subst_vars
      all_goals first
        | (go_ret; exact ⟨ret_bool (by have h := HH.out; simp only [sameN, h]; rfl), hb0⟩)
        | exact (headB_no HH.out (by assumption) (by assumption) (by assumption)).elim
    | true =>
      have hh2 := hh
      simp only [headB, Bool.and_eq_true, beq_iff_eq] at hh2
      obtain ⟨rfl, e1, e2, rfl, e3⟩ := hh2
      have HH := hide hh
      have HE := hide e3
      have hl2 : ((f.len : Int) != (f'.len : Int)) = false := by rw [e3]; simp
      clear hh e3
      go_enter Tryd.func12, Tryd.ntmps12
      go_wp2_with fail
      obtain ⟨q4, q4', qs⟩ := two_boxes w (.int .i64 k) (.string fr) (.string to) (.int .i64 ix) (.slice a f.len cap) (.int .i64 k) (.string fr') (.string to') (.int .i64 ix) (.slice a' f'.len cap') ( /- t -/ 25)
      generalize (w.alloc (.cells #[.int .i64 k, .string fr, .string to, .int .i64 ix, .slice a f.len cap] ( /- t -/ 25))).alloc (.cells #[.int .i64 k, .string fr', .string to', .int .i64 ix, .slice a' f'.len cap'] ( /- t -/ 25)) = W at *
      have hB0 : w.heap.size < W.heap.size := by omega
      have hB1 : w.heap.size + 1 < W.heap.size := by omega
      go_loopw [5] (fun iv wr => ∃ (g g' : F) (j : Nat), j + g.len = f.len ∧ iv = .int .i64 j ∧ g.sz ≤ f.sz ∧ g.len = g'.len ∧ At W a j g ∧ At W a' j g' ∧ sameF f f' = sameF g g' ∧ Below W.heap.size W wr) (fun iv _ => f.len - (intOf iv).toNat)
      case atStart => exact ⟨f, f', 0, by omega, rfl, Nat.le_refl _, HE.out, HA.out, HA'.out, rfl, Below.refl _ _⟩
      case round =>
        obtain ⟨g, g', j, hj, rfl, h5, hgl, hg, hg', hv, hbw⟩ := hrel
        have e4 := (Still.of_below hbw) _ _ q4
        have e4' := (Still.of_below hbw) _ _ q4'
        have hw0 : w.heap.size < wr.heap.size := Nat.lt_of_lt_of_le hB0 hbw.size
        have hw1 : w.heap.size + 1 < wr.heap.size := Nat.lt_of_lt_of_le hB1 hbw.size
        have HV := hide hv
        have HB := hide (hb0.trans (hbw.mono (Nat.le_of_lt hB0)))
        clear hv
        cases g with
        | nil =>
          have H5 : Hid (j = f.len) := by unfold Hid; simpa [F.len] using hj
          have hge : f.len ≤ j := Nat.le_of_eq H5.out.symm
          have hg0 : g' = .nil := by cases g' with
            | nil => rfl
            | cons => simp [F.len] at hgl
          have HG0 := hide hg0
          clear hj hg0 hg hg' hgl h5
          go_wp2_with fail
          go_ret
          refine ⟨ret_bool ?_, HB.out⟩
          rw [sameN, HH.out, HV.out, HG0.out]
          rfl
        | cons lab kd fr1 to1 ix1 kids rest =>
          cases g' with
          | nil => simp [F.len] at hgl
          | cons lab' kd' fr1' to1' ix1' kids' rest' =>
            have HK : Hid (j + 1 + rest.len = f.len ∧ rest.len = rest'.len) := by unfold Hid; simp only [F.len] at hj hgl; omega
            have hlt : j < f.len := by have := HK.out; omega
            have hlt' : j < f'.len := by have := HE.out; omega
            have HZ : Hid (kids.sz < n ∧ rest.sz ≤ f.sz) := by have := HN.out; unfold Hid; simp only [F.sz] at h5; omega
            obtain ⟨b1, o1, rfl, _, _, _, _, _, c0, c1, c2, c3, c4, ⟨sv1, c5, hsv1⟩, _⟩ := (hg.still (Still.of_below hbw)).head
            obtain ⟨b2, o2, rfl, _, _, _, _, _, d0, d1, d2, d3, d4, ⟨sv2, d5, hsv2⟩, _⟩ := (hg'.still (Still.of_below hbw)).head
            have HS1 := hide hsv1
            have HS2 := hide hsv2
            have HG := hide hg.tail
            have HG' := hide hg'.tail
            clear hj h5 hg hg' hsv1 hsv2 hgl
            cases hl : (lab.toList == lab'.toList) with
            | false =>
              have hl3 : ¬ lab.toList = lab'.toList := by simpa using hl
              have HL := hide hl
              have HHB := HB
              go_wp2_with fail
              go_quiet (fail)
              go_wp2_with fail
              go_ret
              refine ⟨ret_bool ?_, ⟨HB.out.os, HB.out.tape, HB.out.output, HB.out.size, HB.out.block⟩⟩
              rw [sameN, HH.out, HV.out]
              simp only [sameF, HL.out]
              rfl
            | true =>
              have hl3 : lab.toList = lab'.toList := by simpa using hl
              have HL := hide hl
              go_wp2_with fail
              go_still_tail 26, (by kernel_rfl)
              change wpList _ _ _ _ _ wr.drew
              have hbd : Below W.heap.size W wr.drew := hbw.drew
              have hst : Still wr wr.drew := fun _ _ h => h
              have HSA := hide (HS1.out.still hst)
              have HSB := hide (HS2.out.still hst)
              clear hst
              generalize wr.drew = w2 at *
              go_wp2_with fail
              refine (ih _ kd ix1 kd' ix1' fr1 to1 fr1' to1' sv1 sv2 kids kids' HZ.out.1 HSA.out HSB.out).mono ?_
              rintro e w1 ⟨rfl, hb1⟩
              have hb2 := hbd.trans (hb1.mono hbd.size)
              clear hb1
              cases hq : sameN kd fr1 to1 ix1 kids kd' fr1' to1' ix1' kids' with
              | false =>
                have HQ := hide hq
                clear hq
                go_wp2_with fail
                go_ret
                refine ⟨ret_bool ?_, hb0.trans (hb2.mono (Nat.le_of_lt hB0))⟩
                rw [sameN, HH.out, HV.out]
                have h := HQ.out
                simp only [sameN] at h
                simp only [sameF, HL.out, h]
                rfl
              | true =>
                have HQ := hide hq
                clear hq
                go_wp2_with fail
                go_roundw
                case rel =>
                  refine ⟨rest, rest', j + 1, by have := HK.out; omega, by go_num, HZ.out.2, HK.out.2, HG.out, HG'.out, ?_, hb2⟩
                  rw [HV.out]
                  have h := HQ.out
                  simp only [sameN] at h
                  simp only [sameF, HL.out, h]
                  rfl
                case measure => simp [intOf]; omega

theorem ge_calls (w : World) (k ix k' ix' : Int) (fr to fr' to' : ByteArray) (sv sv' : Value) (f f' : F) (h : Sl w sv f) (h' : Sl w sv' f') :
    Calls Tryd.prog 12 #[.agg #[.int .i64 k, .string fr, .string to, .int .i64 ix, sv], .agg #[.int .i64 k', .string fr', .string to', .int .i64 ix', sv']] w fun e w' => e = .returned (.bool (sameN k fr to ix f k' fr' to' ix' f')) ∧ Below w.heap.size w w' :=
  ge_all _ w k ix k' ix' fr to fr' to' sv sv' f f' (Nat.lt_succ_self _) h h'

end Go.Proofs.YtfppglfajbmapaaDoor
