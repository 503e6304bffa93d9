/- heldLocal: at a tree that bears the marks it counts them. -/
import Derived.Test.YtbonmdkfmgahbaaLMk
import Derived.Deep.RegionHeld3
namespace Go.Proofs.Ytbonmdkfmgahbaa.Lo
open Go.RowKit

def HeS (f : F) : Prop := ∀ (w : World) (v : Value) (k : Nat), Sl w v (mkF f k) → 1 ≤ k → k + 4 * f.sz ≤ 16777216 →
  Calls Try.prog 29 #[v, .int .i64 (k : Int)] w fun e w' => e = .returned (.int .i64 ((k + 4 * f.sz : Nat) : Int)) ∧ Below w.heap.size w w'

set_option maxHeartbeats 1000000 in
set_option maxRecDepth 100000 in
theorem held_slice_lt : ∀ (n : Nat) (f : F), f.sz < n → HeS f := by
  intro n
  induction n with
  | zero => intro f hf; omega
  | succ n ih =>
    intro f hf w v k hs hk1 hk2
    obtain ⟨a, cap, rfl, hlen, hat⟩ := hs.at
    rw [mkF_len] at hlen ⊢
    unfold maxLen at hlen
    have HA := hide hat
    have HF := hide hf
    have HK2 := hide hk2
    clear hs hat hf hk2
    go_enter Try.func29, Try.ntmps29
    go_wp2_with fail
    go_loopw [1, 5] (fun kv iv wr => ∃ (g : F) (j kc : Nat), j + g.len = f.len ∧ kv = .int .i64 (kc : Int) ∧ iv = .int .i64 (j : Int) ∧ g.sz ≤ f.sz ∧ kc + 4 * g.sz = k + 4 * f.sz ∧ 1 ≤ kc ∧ At w a j (mkF g kc) ∧ Below w.heap.size w wr) (fun _ iv _ => f.len - (intOf iv).toNat)
    case atStart => exact ⟨f, 0, k, by omega, rfl, rfl, Nat.le_refl _, rfl, hk1, HA.out, Below.refl _ _⟩
    case round =>
      obtain ⟨g, j, kc, hj, rfl, rfl, h5, hsum, hkc, hg, hb⟩ := hrel
      have HS := hide hsum
      cases g with
      | nil =>
        have H5 : Hid (j = f.len) := by unfold Hid; simpa [F.len] using hj
        have hge : f.len ≤ j := Nat.le_of_eq H5.out.symm
        clear hj hsum
        go_wp2_with fail
        go_ret
        refine ⟨ret_int ?_, hb⟩
        have := HS.out
        simp only [F.sz] at this
        omega
      | cons lab kd fr ix kids rest =>
        have HJ : Hid (j + 1 + rest.len = f.len) := by unfold Hid; simp only [F.len] at hj; omega
        have hlt : j < f.len := by have := HJ.out; omega
        have hz : kids.sz < n ∧ rest.sz ≤ f.sz ∧ kc + 4 + 4 * kids.sz + 4 * rest.sz = k + 4 * f.sz := by have := HF.out; simp only [F.sz] at h5 hsum; omega
        have HZ := hide hz
        have hkb : kc + 4 + 4 * kids.sz ≤ 16777216 := by have := HK2.out; omega
        have hkb5 : kc + 4 ≤ 16777216 := by omega
        have hg2 : At w a j (.cons (MT kc) (((kc + 1 : Nat) : Int)) (MT (kc + 2)) (((kc + 3 : Nat) : Int)) (mkF kids (kc + 4)) (mkF rest (kc + 4 + 4 * kids.sz))) := hg
        obtain ⟨b, o, rfl, -, -, -, -, c0, c1, c2, c3, ⟨sv, c4, hsv⟩, -⟩ := (hg2.still (Still.of_below hb)).head
        rw [show ((kc + 1 : Nat) : Int) = (kc : Int) + 1 from by omega] at c1
        rw [show ((kc + 3 : Nat) : Int) = (kc : Int) + 1 + 1 + 1 from by omega] at c3
        have HSV := hide hsv
        have HRE := hide hg2.tail
        clear hj h5 hsum hz hg hg2 hsv
        go_wp2_with fail
        go_region_held3 (fun w' => w'.cell? ⟨b, o + j * 5, none⟩ = some (.string (MT kc)))
          (first | exact c0 | exact d0)
          ((first | (go_at_call 34; refine (mt_int _ (by omega) (by omega) _).mono ?_; (rintro e w1 ⟨rfl, hb1⟩); (rw [show ((kc : Int)).toNat = kc from by omega]); (have d0 := (Still.of_below hb1) _ _ c0))))
        have hbb1 : Below w.heap.size w w1 := hb.drew.trans (hb1.mono hb.size)
        have st1 : Still wr w1 := fun p v h => Still.of_below hb1 p v h
        have e1 := st1 _ _ c1
        have e2 := st1 _ _ c2
        have e3 := st1 _ _ c3
        have e4 := st1 _ _ c4
        have HSV1 := hide (HSV.out.still st1)
        clear c0 c1 c2 c3 c4 d0 st1 hb1 hb HSV
        go_wp2_with fail
        go_region_held3 (fun w' => w'.cell? ⟨b, o + j * 5 + 1 + 1, none⟩ = some (.string (MT (kc + 2))))
          (first | exact e2 | exact d2)
          ((first | (go_at_call 34; refine (mt_int _ (by omega) (by omega) _).mono ?_; (rintro e w2 ⟨rfl, hb2⟩); (rw [show ((kc : Int) + 1 + 1).toNat = kc + 2 from by omega]); (have d2 := (Still.of_below hb2) _ _ e2))))
        have hbb3 : Below w.heap.size w w2 := hbb1.drew.trans (hb2.mono hbb1.size)
        have st2 : Still w1 w2 := fun p v h => Still.of_below hb2 p v h
        have g3 := st2 _ _ e3
        have g4 := st2 _ _ e4
        have HSV3 := hide (HSV1.out.still st2)
        clear e1 e2 e3 e4 d2 st2 hb2 hbb1 HSV1
        go_wp2_with fail
        rw [show (kc : Int) + 1 + 1 + 1 + 1 = ((kc + 4 : Nat) : Int) from by omega]
        refine (ih kids HZ.out.1 _ _ (kc + 4) HSV3.out (by omega) (by omega)).mono ?_
        rintro e w4 ⟨rfl, hb4⟩
        have hbb4 : Below w.heap.size w w4 := hbb3.trans (hb4.mono hbb3.size)
        clear hb4 hbb3 HSV3
        generalize hQ : kc + 4 + 4 * kids.sz = Q at *
        have HQ := hide hQ
        clear hQ
        go_wp2_with fail
        refine ⟨⟨rest, j + 1, Q, by have := HJ.out; omega, rfl, by go_num, HZ.out.2.1, ?_, by have := HQ.out; omega, HRE.out, hbb4⟩, by simp [intOf]; omega⟩
        have h1 := HZ.out.2.2
        have h2 := HQ.out
        omega

set_option maxHeartbeats 400000 in
/-- heldLocal. -/
theorem held_calls (f : F) (w : World) (u : Value) (k ix : Int) (fr : ByteArray) (m : Nat) (hs : Sl w u (mkF f m)) (hm1 : 1 ≤ m) (hm2 : m + 4 * f.sz ≤ 16777216) :
    Calls Try.prog 10 #[.agg #[.int .i64 k, .string fr, .int .i64 ix, u], .int .i64 (m : Int)] w fun e w' => e = .returned (.int .i64 ((m + 4 * f.sz : Nat) : Int)) ∧ Below w.heap.size w w' := by
  have hb := alloc_below w (.cells #[.int .i64 k, .string fr, .int .i64 ix, u] ( /- t -/ 24))
  have HS := hide (hs.still (Still.of_below hb))
  clear hs
  go_enter Try.func10, Try.ntmps10
  go_wp2_with fail
  refine (held_slice_lt _ f (Nat.lt_succ_self _) _ _ m HS.out hm1 hm2).mono ?_
  rintro e w1 ⟨rfl, hb1⟩
  have hb2 := hb.trans (hb1.mono hb.size)
  clear hb hb1
  go_wp2_with fail
  go_ret
  exact ⟨ret_int (by omega), hb2⟩
end Go.Proofs.Ytbonmdkfmgahbaa.Lo
