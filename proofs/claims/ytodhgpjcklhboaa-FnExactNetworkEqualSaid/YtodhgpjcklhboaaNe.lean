/- eqNetwork and what it is made of: two values that read alike are equal. -/
import Derived.Test.YtodhgpjcklhboaaRows
import Derived.Test.YtodhgpjcklhboaaLEq
import Derived.Test.YtodhgpjcklhboaaNr
import Derived.StillTailTactics
import Derived.Deep.QuietTactic
import Derived.BigQuiet
namespace Go.Proofs.Ytodhgpjcklhboaa.Lo.Ne
open Go.RowKit

set_option maxHeartbeats 800000 in
/-- eqStringS. -/
theorem eqS (l : List ByteArray) (w : World) (u v : Value) (hu : SlG elS w u l) (hv : SlG elS w v l) :
    Calls Try.prog 56 #[u, v] w fun e w' => e = .returned (.bool true) ∧ Below w.heap.size w w' := by
  obtain ⟨a, cap, rfl, hlen, hat⟩ := hu.at
  obtain ⟨a', cap', rfl, _, hat'⟩ := hv.at
  have HA := hide hat
  have HA' := hide hat'
  clear hu hv hat hat'
  unfold maxLen at hlen
  go_enter Try.func56, Try.ntmps56
  go_wp2_with fail
  go_loopw [5] (fun iv wr => ∃ (g : List ByteArray) (k : Nat), k + g.length = l.length ∧ iv = .int .i64 k ∧ AtG elS w a k g ∧ AtG elS w a' k g ∧ Below w.heap.size w wr) (fun iv _ => l.length - (intOf iv).toNat)
  case atStart => exact ⟨l, 0, by omega, rfl, HA.out, HA'.out, Below.refl _ _⟩
  case round =>
    obtain ⟨g, k, hk, rfl, h6, h7, hb⟩ := hrel
    cases g with
    | nil =>
      have H5 : Hid (k = l.length) := by unfold Hid; simpa using hk
      have hge : l.length ≤ k := Nat.le_of_eq H5.out.symm
      clear hk
      go_wp2_with fail
      go_ret
      exact ⟨rfl, hb⟩
    | cons s rest =>
      have HK : Hid (k + 1 + rest.length = l.length) := by unfold Hid; simp only [List.length_cons] at hk; omega
      have hlt : k < l.length := by have := HK.out; omega
      obtain ⟨b, o, rfl, l1, c0⟩ := AtS.head (h6.still (Still.of_below hb))
      obtain ⟨b', o', rfl, -, d0⟩ := AtS.head (h7.still (Still.of_below hb))
      have HRE := hide h6.tail
      have HRE' := hide h7.tail
      clear hk h6 h7
      go_wp2_with fail
      go_quiet (fail)
      go_wp2_with fail
      go_roundw
      case rel => exact ⟨rest, k + 1, by have := HK.out; omega, by go_num, HRE.out, HRE'.out, ⟨hb.os, hb.tape, hb.output, hb.size, hb.block⟩⟩
      case measure => simp [intOf]; omega

set_option maxHeartbeats 800000 in
set_option maxRecDepth 100000 in
/-- eqLocalS. -/
theorem eqL (l : List Nd) (w : World) (u v : Value) (hu : SlG elL w u l) (hv : SlG elL w v l) :
    Calls Try.prog 55 #[u, v] w fun e w' => e = .returned (.bool true) ∧ Below w.heap.size w w' := by
  obtain ⟨a, cap, rfl, hlen, hat⟩ := hu.at
  obtain ⟨a', cap', rfl, _, hat'⟩ := hv.at
  have HA := hide hat
  have HA' := hide hat'
  clear hu hv hat hat'
  unfold maxLen at hlen
  go_enter Try.func55, Try.ntmps55
  go_wp2_with fail
  go_loopw [5] (fun iv wr => ∃ (g : List Nd) (k : Nat), k + g.length = l.length ∧ iv = .int .i64 k ∧ AtG elL w a k g ∧ AtG elL w a' k g ∧ Below w.heap.size w wr) (fun iv _ => l.length - (intOf iv).toNat)
  case atStart => exact ⟨l, 0, by omega, rfl, HA.out, HA'.out, Below.refl _ _⟩
  case round =>
    obtain ⟨g, k, hk, rfl, h6, h7, hb⟩ := hrel
    cases g with
    | nil =>
      have H5 : Hid (k = l.length) := by unfold Hid; simpa using hk
      have hge : l.length ≤ k := Nat.le_of_eq H5.out.symm
      clear hk
      go_wp2_with fail
      go_ret
      exact ⟨rfl, hb⟩
    | cons n rest =>
      obtain ⟨kd, fr, ix, kids⟩ := n
      have HK : Hid (k + 1 + rest.length = l.length) := by unfold Hid; simp only [List.length_cons] at hk; omega
      have hlt : k < l.length := by have := HK.out; omega
      obtain ⟨b, o, rfl, l1, -, -, c0, c1, c2, su, c3, hsu⟩ := AtL.head (h6.still (Still.of_below hb))
      obtain ⟨b', o', rfl, -, -, -, d0, d1, d2, sv, d3, hsv⟩ := AtL.head (h7.still (Still.of_below hb))
      have HSU := hide hsu
      have HSV := hide hsv
      have HRE := hide h6.tail
      have HRE' := hide h7.tail
      clear hk h6 h7 hsu hsv
      go_wp2_with fail
      go_still_tail 8, (by kernel_rfl)
      change wpList _ _ _ _ _ wr.drew
      have hbd : Below w.heap.size w wr.drew := hb.drew
      have hst : Still wr wr.drew := fun _ _ h => h
      have HSU' := hide (HSU.out.still hst)
      have HSV' := hide (HSV.out.still hst)
      clear hst
      generalize wr.drew = w2 at *
      go_wp2_with fail
      refine (eq_calls kids w2 kd ix fr su sv HSU'.out HSV'.out).mono ?_
      rintro e w1 ⟨rfl, hb1⟩
      have hb2 : Below w.heap.size w w1 := hbd.trans (hb1.mono hbd.size)
      go_wp2_with fail
      go_roundw
      case rel => exact ⟨rest, k + 1, by have := HK.out; omega, by go_num, HRE.out, HRE'.out, hb2⟩
      case measure => simp [intOf]; omega

set_option maxHeartbeats 800000 in
/-- eqNetwork at two networks that read alike. -/
theorem eqNet (w : World) (lu qu lv qv : Value) (l : List Nd) (q : List ByteArray) (hlu : SlG elL w lu l) (hqu : SlG elS w qu q) (hlv : SlG elL w lv l) (hqv : SlG elS w qv q) :
    Calls Try.prog 22 #[.agg #[lu, qu], .agg #[lv, qv]] w fun e w' => e = .returned (.bool true) ∧ Below w.heap.size w w' := by
  obtain ⟨la, lc, rfl, -, -⟩ := hlu.at
  obtain ⟨la', lc', rfl, -, -⟩ := hlv.at
  obtain ⟨qa, qc, rfl, -, -⟩ := hqu.at
  obtain ⟨qa', qc', rfl, -, -⟩ := hqv.at
  have hB := (alloc_below w (.cells #[.slice la l.length lc, .slice qa q.length qc] ( /- t -/ 45))).alloc (by simp) (.cells #[.slice la' l.length lc', .slice qa' q.length qc'] ( /- t -/ 45))
  have HU := hide (hlu.still (Still.of_below hB))
  have HV := hide (hlv.still (Still.of_below hB))
  have HUq := hide (hqu.still (Still.of_below hB))
  have HVq := hide (hqv.still (Still.of_below hB))
  clear hlu hqu hlv hqv
  go_enter Try.func22, Try.ntmps22
  go_wp2_with fail
  refine (eqL l _ _ _ HU.out HV.out).mono ?_
  rintro e w1 ⟨rfl, hb⟩
  have hb2 := hB.trans (hb.mono (by simp; omega))
  have hx1 := (((Box2.now w (.slice la l.length lc) (.slice qa q.length qc) ( /- t -/ 45)).below (alloc_below _ (.cells #[.slice la' l.length lc', .slice qa' q.length qc'] ( /- t -/ 45)))).below hb)
  have hx2 := ((Box2.now (w.alloc (.cells #[.slice la l.length lc, .slice qa q.length qc] ( /- t -/ 45))) (.slice la' l.length lc') (.slice qa' q.length qc') ( /- t -/ 45)).below hb)
  rw [show (w.alloc (.cells #[.slice la l.length lc, .slice qa q.length qc] ( /- t -/ 45))).heap.size = w.heap.size + 1 from by simp] at hx2
  have hl1 := hx1.lt
  have hl2 := hx2.lt
  have d1 := hx1.cells.2
  have d2 := hx2.cells.2
  have HUq1 := hide (HUq.out.still (Still.of_below hb))
  have HVq1 := hide (HVq.out.still (Still.of_below hb))
  clear hb hB hx1 hx2
  go_wp2_with fail
  refine (eqS q _ _ _ HUq1.out HVq1.out).mono ?_
  rintro e w2 ⟨rfl, hb⟩
  have hb3 := hb2.trans (hb.mono hb2.size)
  clear hb
  go_wp2_with fail
  go_ret
  exact ⟨rfl, hb3⟩
end Go.Proofs.Ytodhgpjcklhboaa.Lo.Ne
