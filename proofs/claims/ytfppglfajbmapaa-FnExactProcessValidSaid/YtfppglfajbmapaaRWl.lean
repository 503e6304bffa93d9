/- withoutLabels and processFieldsFit of the program. -/
import Derived.Test.YtfppglfajbmapaaRLf
import Derived.Deep.Cut
namespace Go.Proofs.Ytfppglfajbmapaa.Pc
open Go.RowKit

theorem wl_one (w : World) (lab : ByteArray) (k ix : Int) (fr to : ByteArray) (a : Option Addr) (n c : Nat) (v : Bool) (hv : lab.toList.isEmpty = v) :
    Calls Try.prog 108 #[.agg #[.string lab, .int .i64 k, .string fr, .string to, .int .i64 ix, .slice a n c]] w fun e w' => e = .returned (.bool (!v)) ∧ Below w.heap.size w w' := by
  have hb0 := alloc_below w (.cells #[.string lab, .int .i64 k, .string fr, .string to, .int .i64 ix, .slice a n c] ( /- t -/ 92))
  have HV := hide hv
  clear hv
  go_enter Try.func108, Try.ntmps108
  go_wp2_with fail
  all_goals go_ret
  all_goals exact ⟨ret_bool (by rw [← HV.out]), hb0⟩

/-- What IndexFunc finds. -/
def IxPost (f : F) (w : World) (e : Ending) (w' : World) : Prop := ∃ r : Int, e = .returned (.int .i64 r) ∧ (bareF f = true → r < 0) ∧ (bareF f = false → 0 ≤ r) ∧ Below w.heap.size w w'

set_option maxHeartbeats 2000000 in
set_option maxRecDepth 100000 in
theorem ix_calls (w : World) (f : F) (sv : Value) (hs : Sl w sv f) :
    Calls Try.prog 112 #[sv, .func (.func ( /- f -/ 108)) #[] #[]] w (IxPost f w) := by
  obtain ⟨a, cap, rfl, hlen, hat⟩ := hs.at
  unfold maxLen at hlen
  have HA := hide hat
  clear hs hat
  go_enter Try.func112, Try.ntmps112
  go_wp2_with fail
  go_loopw [8] (fun iv wr => ∃ (g : F) (j : Nat), j + g.len = f.len ∧ iv = .int .i64 j ∧ At w a j g ∧ bareF f = bareF g ∧ Below w.heap.size w wr) (fun iv _ => f.len - (intOf iv).toNat)
  case atStart => exact ⟨f, 0, by omega, rfl, HA.out, rfl, Below.refl _ _⟩
  case round =>
    obtain ⟨g, j, hj, rfl, hg, hbr, hb⟩ := hrel
    have HR := hide hbr
    clear hbr
    cases g with
    | nil =>
      have hge : f.len ≤ j := by simp [F.len] at hj; omega
      clear hj hg
      go_wp2_with fail
      go_ret
      exact ⟨_, rfl, fun _ => by decide, (fun h => by rw [HR.out] at h; cases h), hb⟩
    | cons lab kd fr' to' ix' kids rest =>
      have HK : Hid (j + 1 + rest.len = f.len) := by unfold Hid; simp only [F.len] at hj; omega
      have hlt : j < f.len := by have := HK.out; omega
      obtain ⟨b, o, rfl, _, _, _, _, _, c0, c1, c2, c3, c4, ⟨sv', c5, hsv⟩, _⟩ := (hg.still (Still.of_below hb)).head
      obtain ⟨ka, kc, rfl, -, -⟩ := hsv.at
      have HG := hide hg
      have HB := hide hb
      clear hj hg hsv hb
      obtain ⟨v, hv⟩ : ∃ v, lab.toList.isEmpty = v := ⟨_, rfl⟩
      go_wp2_with fail
      refine (wl_one _ lab kd ix' fr' to' ka kids.len kc v hv).mono ?_
      rintro e w2 ⟨rfl, hb2⟩
      have HB2 := hide (HB.out.trans (hb2.mono HB.out.size))
      clear hb2
      cases v with
      | false =>
        have HV := hide hv
        clear hv
        go_wp2_with fail
        go_ret
        exact ⟨_, rfl, (fun h => by rw [HR.out] at h; unfold bareF at h; rw [HV.out] at h; cases h), (fun _ => by omega), HB2.out⟩
      | true =>
        have HV := hide hv
        clear hv
        go_wp2_with fail
        refine ⟨⟨rest, j + 1, by have := HK.out; omega, by go_num, HG.out.tail, ?_, HB2.out⟩, by simp [intOf]; omega⟩
        rw [HR.out, bareF, HV.out]
        rfl

set_option maxHeartbeats 1000000 in
set_option maxRecDepth 100000 in
theorem cf_calls (w : World) (f : F) (sv : Value) (hs : Sl w sv f) :
    Calls Try.prog 107 #[sv, .func (.func ( /- f -/ 108)) #[] #[]] w fun e w' => e = .returned (.bool (!bareF f)) ∧ Below w.heap.size w w' := by
  obtain ⟨v, hv⟩ : ∃ v, v = !bareF f := ⟨_, rfl⟩
  rw [← hv]
  have HV := hide hv
  have HC := hide (ix_calls w f sv hs)
  clear hv hs
  go_enter Try.func107, Try.ntmps107
  go_wp2_with fail
  refine HC.out.mono ?_
  rintro e w1 ⟨r, rfl, h1, h2, hb⟩
  have HH := hide (And.intro h1 h2)
  clear h1 h2
  go_wp2_with fail
  go_ret
  refine ⟨ret_bool ?_, hb⟩
  rw [HV.out]
  show decide _ = _
  cases h : bareF f with
  | true => exact decide_eq_false (by have := HH.out.1 h; omega)
  | false => exact decide_eq_true (HH.out.2 h)

set_option maxHeartbeats 1000000 in
set_option maxRecDepth 100000 in
theorem wl_calls (w : World) (f : F) (sv : Value) (n : Nat) (hs : Sl w sv f) :
    Calls Try.prog 99 #[sv, .int .i64 (n : Int)] w fun e w' => e = .returned (.bool (plainB f n)) ∧ Below w.heap.size w w' := by
  obtain ⟨v, hv⟩ : ∃ v, v = plainB f n := ⟨_, rfl⟩
  rw [← hv]
  have HV := hide hv
  have HC := hide (cf_calls w f sv hs)
  obtain ⟨a, cap, rfl, hlen, hat⟩ := hs.at
  clear hv hs hat
  go_enter Try.func99, Try.ntmps99
  by_cases hn : f.len = n
  · have hn2 : ((f.len : Int) == (n : Int)) = true := by rw [hn]; simp
    have HN := hide hn
    clear hn
    go_wp2_with fail
    refine HC.out.mono ?_
    rintro e w1 ⟨rfl, hb⟩
    have HR : Hid (bareF f = v) := hide (by rw [HV.out]; unfold plainB; rw [decide_eq_true HN.out, Bool.and_true])
    rw [HR.out]
    cases v with
    | true =>
      go_wp2_with fail
      go_ret
      exact ⟨rfl, hb⟩
    | false =>
      go_wp2_with fail
      go_ret
      exact ⟨rfl, hb⟩
  · have hn2 : ((f.len : Int) == (n : Int)) = false := beq_eq_false_iff_ne.2 (by omega)
    have HR : Hid (v = false) := hide (by rw [HV.out]; unfold plainB; rw [decide_eq_false hn, Bool.and_false])
    go_wp2_with fail
    go_ret
    exact ⟨ret_bool HR.out.symm, Below.refl _ _⟩

theorem plain_zero (f : F) : ((f.len : Int) == 0) = plainB f 0 := by
  unfold plainB
  cases f with
  | nil => rfl
  | cons lab k fr to ix kids rest =>
    rw [decide_eq_false (by simp [F.len]), Bool.and_false]
    exact beq_eq_false_iff_ne.2 (by simp only [F.len]; omega)

/-- The strings that a silent node has not, both empty. -/
theorem fields_silent {k : Int} {fr to : ByteArray} {ix : Int} (h2 : k ≠ 2) (h3 : k ≠ 3) (h6 : k ≠ 6) : fieldsB k fr to ix = (fr.toList.isEmpty && to.toList.isEmpty && (ix == 0)) := by
  unfold fieldsB
  rw [beq_eq_false_iff_ne.2 h2, beq_eq_false_iff_ne.2 h3, beq_eq_false_iff_ne.2 h6]
  simp

set_option maxHeartbeats 4000000 in
set_option maxRecDepth 100000 in
/-- processFieldsFit of the program. -/
theorem ff_calls (w : World) (kids : F) (k ix : Int) (fr to : ByteArray) (sv : Value) (hs : Sl w sv kids) :
    Calls Try.prog 75 #[.agg #[.int .i64 k, .string fr, .string to, .int .i64 ix, sv]] w fun e w' => e = .returned (.bool (shapeB k fr to ix kids)) ∧ Below w.heap.size w w' := by
  obtain ⟨v, hv⟩ : ∃ v, v = shapeB k fr to ix kids := ⟨_, rfl⟩
  rw [← hv]
  have HV := hide hv
  obtain ⟨a, cap, rfl, hlen, hat⟩ := hs.at
  have hb0 := alloc_below w (.cells #[.int .i64 k, .string fr, .string to, .int .i64 ix, .slice a kids.len cap] ( /- t -/ 48))
  have hx := Box5.now w (.int .i64 k) (.string fr) (.string to) (.int .i64 ix) (.slice a kids.len cap) ( /- t -/ 48)
  have HS := hide (hs.still (Still.of_below hb0))
  have HB := hide hb0
  clear hs hat hv hb0
  go_enter Try.func75, Try.ntmps75
  go_upto_region 1 with fail
  generalize w.alloc (.cells #[.int .i64 k, .string fr, .string to, .int .i64 ix, .slice a kids.len cap] ( /- t -/ 48)) = W at *
  obtain ⟨c0, c1, c2, c3, c4⟩ := hx.cells
  have hxl := hx.lt
  clear hx
  have HW : Hid (∀ n : Nat, Calls Try.prog 99 #[.slice a kids.len cap, .int .i64 (n : Int)] W fun e w' => e = .returned (.bool (plainB kids n)) ∧ Below W.heap.size W w') := hide (fun n => wl_calls W kids _ n HS.out)
  have HF := hide (implFit W w.heap.size kids _ HS.out c4)
  by_cases k1 : k = 1
  · subst k1
    go_wp2_with (first
      | (go_at_call 97; refine (implRole _ _).mono ?_; rintro e w' ⟨rfl, rfl⟩)
      | (go_at_call 98; refine (implLab _ _).mono ?_; rintro e w' ⟨rfl, rfl⟩)
      | (go_at_call 99; refine (HW.out 0).mono ?_; rintro e w9 ⟨rfl, hb9⟩)
      | (go_at_call 100; refine HF.out.mono ?_; rintro e w9 ⟨rfl, hb9⟩)
      | fail)
    all_goals go_ret
    all_goals refine ⟨ret_bool ?_, (by first | exact HB.out | exact HB.out.trans (hb9.mono HB.out.size))⟩
    all_goals rw [HV.out]
    all_goals (first | (simp_all [shapeB, fieldsB]; done) | (simp_all [shapeB, fieldsB]; exact plain_zero kids))
  by_cases k2 : k = 2
  · subst k2
    go_wp2_with (first
      | (go_at_call 97; refine (implRole _ _).mono ?_; rintro e w' ⟨rfl, rfl⟩)
      | (go_at_call 98; refine (implLab _ _).mono ?_; rintro e w' ⟨rfl, rfl⟩)
      | (go_at_call 99; refine (HW.out 1).mono ?_; rintro e w9 ⟨rfl, hb9⟩)
      | (go_at_call 100; refine HF.out.mono ?_; rintro e w9 ⟨rfl, hb9⟩)
      | fail)
    all_goals go_ret
    all_goals refine ⟨ret_bool ?_, (by first | exact HB.out | exact HB.out.trans (hb9.mono HB.out.size))⟩
    all_goals rw [HV.out]
    all_goals (first | (simp_all [shapeB, fieldsB]; done) | (simp_all [shapeB, fieldsB]; exact plain_zero kids))
  by_cases k3 : k = 3
  · subst k3
    go_wp2_with (first
      | (go_at_call 97; refine (implRole _ _).mono ?_; rintro e w' ⟨rfl, rfl⟩)
      | (go_at_call 98; refine (implLab _ _).mono ?_; rintro e w' ⟨rfl, rfl⟩)
      | (go_at_call 99; refine (HW.out 0).mono ?_; rintro e w9 ⟨rfl, hb9⟩)
      | (go_at_call 100; refine HF.out.mono ?_; rintro e w9 ⟨rfl, hb9⟩)
      | fail)
    all_goals go_ret
    all_goals refine ⟨ret_bool ?_, (by first | exact HB.out | exact HB.out.trans (hb9.mono HB.out.size))⟩
    all_goals rw [HV.out]
    all_goals (first | (simp_all [shapeB, fieldsB]; done) | (simp_all [shapeB, fieldsB]; exact plain_zero kids))
  by_cases k4 : k = 4
  · subst k4
    go_wp2_with (first
      | (go_at_call 97; refine (implRole _ _).mono ?_; rintro e w' ⟨rfl, rfl⟩)
      | (go_at_call 98; refine (implLab _ _).mono ?_; rintro e w' ⟨rfl, rfl⟩)
      | (go_at_call 99; refine (HW.out 2).mono ?_; rintro e w9 ⟨rfl, hb9⟩)
      | (go_at_call 100; refine HF.out.mono ?_; rintro e w9 ⟨rfl, hb9⟩)
      | fail)
    all_goals go_ret
    all_goals refine ⟨ret_bool ?_, (by first | exact HB.out | exact HB.out.trans (hb9.mono HB.out.size))⟩
    all_goals rw [HV.out]
    all_goals (first | (simp_all [shapeB, fieldsB]; done) | (simp_all [shapeB, fieldsB]; exact plain_zero kids))
  by_cases k5 : k = 5
  · subst k5
    go_wp2_with (first
      | (go_at_call 97; refine (implRole _ _).mono ?_; rintro e w' ⟨rfl, rfl⟩)
      | (go_at_call 98; refine (implLab _ _).mono ?_; rintro e w' ⟨rfl, rfl⟩)
      | (go_at_call 99; refine (HW.out 1).mono ?_; rintro e w9 ⟨rfl, hb9⟩)
      | (go_at_call 100; refine HF.out.mono ?_; rintro e w9 ⟨rfl, hb9⟩)
      | fail)
    all_goals go_ret
    all_goals refine ⟨ret_bool ?_, (by first | exact HB.out | exact HB.out.trans (hb9.mono HB.out.size))⟩
    all_goals rw [HV.out]
    all_goals (first | (simp_all [shapeB, fieldsB]; done) | (simp_all [shapeB, fieldsB]; exact plain_zero kids))
  by_cases k6 : k = 6
  · subst k6
    go_wp2_with (first
      | (go_at_call 97; refine (implRole _ _).mono ?_; rintro e w' ⟨rfl, rfl⟩)
      | (go_at_call 98; refine (implLab _ _).mono ?_; rintro e w' ⟨rfl, rfl⟩)
      | (go_at_call 99; refine (HW.out 0).mono ?_; rintro e w9 ⟨rfl, hb9⟩)
      | (go_at_call 100; refine HF.out.mono ?_; rintro e w9 ⟨rfl, hb9⟩)
      | fail)
    all_goals go_ret
    all_goals refine ⟨ret_bool ?_, (by first | exact HB.out | exact HB.out.trans (hb9.mono HB.out.size))⟩
    all_goals rw [HV.out]
    all_goals (first | (simp_all [shapeB, fieldsB]; done) | (simp_all [shapeB, fieldsB]; exact plain_zero kids))
  · go_wp2_with fail
    all_goals go_ret
    all_goals refine ⟨ret_bool ?_, HB.out⟩
    all_goals rw [HV.out]
    all_goals simp [shapeB, k1, k2, k3, k4, k5, k6]
end Go.Proofs.Ytfppglfajbmapaa.Pc
