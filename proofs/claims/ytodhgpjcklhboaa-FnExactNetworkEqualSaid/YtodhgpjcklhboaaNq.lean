/- NetworkEqual, of the model and of the program. -/
import Derived.Test.YtodhgpjcklhboaaNr
import Derived.Test.YtodhgpjcklhboaaLQs
import Derived.StillTailTactics
import Derived.Deep.QuietTactic
import Derived.BigQuiet
namespace Go.Proofs.Ytodhgpjcklhboaa.Lo.Ne
open Go.RowKit

def sameL : List Nd → List Nd → Bool
  | [], [] => true
  | n :: r, m :: s => sameN n.k n.fr n.ix n.kids m.k m.fr m.ix m.kids && sameL r s
  | _, _ => false
def sameQ : List ByteArray → List ByteArray → Bool
  | [], [] => true
  | n :: r, m :: s => (n.toList == m.toList) && sameQ r s
  | _, _ => false
theorem sameL_len : ∀ {l m : List Nd}, l.length ≠ m.length → sameL l m = false
  | [], [], h => absurd rfl h
  | [], _ :: _, _ => rfl
  | _ :: _, [], _ => rfl
  | n :: r, m :: s, h => by simp only [sameL]; rw [sameL_len (by simpa using h), Bool.and_false]
theorem sameQ_len : ∀ {l m : List ByteArray}, l.length ≠ m.length → sameQ l m = false
  | [], [], h => absurd rfl h
  | [], _ :: _, _ => rfl
  | _ :: _, [], _ => rfl
  | n :: r, m :: s, h => by simp only [sameQ]; rw [sameQ_len (by simpa using h), Bool.and_false]

/-- The two boxes of the arguments. -/
theorem two_nets (w : World) (u0 u1 v0 v1 : Value) (t : TypeId) :
    Box2 ((w.alloc (.cells #[u0, u1] t)).alloc (.cells #[v0, v1] t)) w.heap.size u0 u1 ∧ Box2 ((w.alloc (.cells #[u0, u1] t)).alloc (.cells #[v0, v1] t)) (w.heap.size + 1) v0 v1 := by
  refine ⟨(Box2.now w u0 u1 t).below (alloc_below _ _), ?_⟩
  have := Box2.now (w.alloc (.cells #[u0, u1] t)) v0 v1 t
  simpa using this

set_option maxHeartbeats 1600000 in
set_option maxRecDepth 100000 in
/-- NetworkEqual of the model. -/
theorem specNetEq (w : World) (lu qu lv qv : Value) (l m : List Nd) (q p : List ByteArray) (hlu : SlG elL w lu l) (hqu : SlG elS w qu q) (hlv : SlG elL w lv m) (hqv : SlG elS w qv p) :
    Calls Try.prog 19 #[.agg #[lu, qu], .agg #[lv, qv]] w fun e w' => e = .returned (.bool (sameL l m && sameQ q p)) ∧ Below w.heap.size w w' := by
  obtain ⟨la, lc, rfl, hll, hal⟩ := hlu.at
  obtain ⟨la', lc', rfl, hlm, ham⟩ := hlv.at
  obtain ⟨qa, qc, rfl, hlq, haq⟩ := hqu.at
  obtain ⟨qa', qc', rfl, hlp, hap⟩ := hqv.at
  unfold maxLen at hll hlm hlq hlp
  have hB := (alloc_below w (.cells #[.slice la l.length lc, .slice qa q.length qc] ( /- t -/ 45))).alloc (by simp) (.cells #[.slice la' m.length lc', .slice qa' p.length qc'] ( /- t -/ 45))
  have hbx := two_nets w (.slice la l.length lc) (.slice qa q.length qc) (.slice la' m.length lc') (.slice qa' p.length qc') ( /- t -/ 45)
  have HAL := hide (hal.still (Still.of_below hB))
  have HAM := hide (ham.still (Still.of_below hB))
  have HAQ := hide (haq.still (Still.of_below hB))
  have HAP := hide (hap.still (Still.of_below hB))
  have HBX := hide hbx
  have HHB := hide hB
  clear hlu hqu hlv hqv hal ham haq hap hB hbx
  by_cases h1 : l.length = m.length
  case neg =>
    have h1' : ((l.length : Int) != (m.length : Int)) = true := bne_iff_ne.2 (by omega)
    rw [sameL_len h1]
    clear h1
    go_enter Try.func19, Try.ntmps19
    go_wp2_with fail
    go_ret
    exact ⟨rfl, HHB.out⟩
  by_cases h2 : q.length = p.length
  case neg =>
    have h1' : ((l.length : Int) != (m.length : Int)) = false := by rw [h1]; simp
    have h2' : ((q.length : Int) != (p.length : Int)) = true := bne_iff_ne.2 (by omega)
    rw [sameQ_len h2, Bool.and_false]
    clear h1 h2
    go_enter Try.func19, Try.ntmps19
    go_wp2_with fail
    go_ret
    exact ⟨rfl, HHB.out⟩
  have h1' : ((l.length : Int) != (m.length : Int)) = false := by rw [h1]; simp
  have h2' : ((q.length : Int) != (p.length : Int)) = false := by rw [h2]; simp
  have H1 := hide h1
  have H2 := hide h2
  clear h1 h2
  go_enter Try.func19, Try.ntmps19
  go_wp2_with fail
  generalize (w.alloc (.cells #[.slice la l.length lc, .slice qa q.length qc] ( /- t -/ 45))).alloc (.cells #[.slice la' m.length lc', .slice qa' p.length qc'] ( /- t -/ 45)) = W at *
  go_loopw [5] (fun iv wr => ∃ (g g' : List Nd) (j : Nat), j + g.length = l.length ∧ iv = .int .i64 j ∧ g.length = g'.length ∧ AtG elL W la j g ∧ AtG elL W la' j g' ∧ sameL l m = sameL g g' ∧ Below W.heap.size W wr) (fun iv _ => l.length - (intOf iv).toNat)
  case atStart => exact ⟨l, m, 0, by omega, rfl, H1.out, HAL.out, HAM.out, rfl, Below.refl _ _⟩
  case round =>
    obtain ⟨g, g', j, hj, rfl, hgl, hg, hg', hv, hbw⟩ := hrel
    have HV := hide hv
    have HBW := hide hbw
    obtain ⟨x0, x1⟩ := (HBX.out.1.below hbw).cells
    obtain ⟨y0, y1⟩ := (HBX.out.2.below hbw).cells
    have xl := (HBX.out.1.below hbw).lt
    have yl := (HBX.out.2.below hbw).lt
    clear hv hbw
    cases g with
    | nil =>
      obtain rfl : g' = [] := by cases g' with | nil => rfl | cons => simp at hgl
      have H5 : Hid (j = l.length) := by unfold Hid; simpa using hj
      have hge : l.length ≤ j := Nat.le_of_eq H5.out.symm
      clear hj hg hg' hgl
      have HVL : Hid (sameL l m = true) := hide HV.out
      go_wp2_with fail
      go_loopw [6] (fun iv wr => ∃ (g g' : List ByteArray) (j : Nat), j + g.length = q.length ∧ iv = .int .i64 j ∧ g.length = g'.length ∧ AtG elS W qa j g ∧ AtG elS W qa' j g' ∧ sameQ q p = sameQ g g' ∧ Below W.heap.size W wr) (fun iv _ => q.length - (intOf iv).toNat)
      case atStart => exact ⟨q, p, 0, by omega, rfl, H2.out, HAQ.out, HAP.out, rfl, HBW.out⟩
      case round =>
        clear x0 x1 y0 y1 xl yl HBW hge H5
        obtain ⟨g, g', j, hj, rfl, hgl, hg, hg', hv, hbw⟩ := hrel
        have HV := hide hv
        have HBW := hide hbw
        obtain ⟨x0, x1⟩ := (HBX.out.1.below hbw).cells
        obtain ⟨y0, y1⟩ := (HBX.out.2.below hbw).cells
        have xl := (HBX.out.1.below hbw).lt
        have yl := (HBX.out.2.below hbw).lt
        have HBB := hide (HHB.out.trans (hbw.mono HHB.out.size))
        cases g with
        | nil =>
          obtain rfl : g' = [] := by cases g' with | nil => rfl | cons => simp at hgl
          have H5 : Hid (j = q.length) := by unfold Hid; simpa using hj
          have hge : q.length ≤ j := Nat.le_of_eq H5.out.symm
          clear hj hg hg' hgl hv hbw
          go_wp2_with fail
          go_ret
          exact ⟨ret_bool (by rw [HVL.out, HV.out]; rfl), HBB.out⟩
        | cons s rest =>
          obtain ⟨t, rest', rfl⟩ : ∃ t rest', g' = t :: rest' := by cases g' with | nil => simp at hgl | cons t r => exact ⟨t, r, rfl⟩
          have HK : Hid (j + 1 + rest.length = q.length ∧ rest.length = rest'.length) := by unfold Hid; simp only [List.length_cons] at hj hgl; omega
          have hlt : j < q.length := by have := HK.out; omega
          have hlt' : j < p.length := by have := H2.out; omega
          obtain ⟨b1, o1, rfl, _, c0⟩ := AtS.head (hg.still (Still.of_below hbw))
          obtain ⟨b2, o2, rfl, _, d0⟩ := AtS.head (hg'.still (Still.of_below hbw))
          have HG := hide hg.tail
          have HG' := hide hg'.tail
          clear hj hg hg' hgl hv hbw
          cases hl : (s.toList == t.toList) with
          | false =>
            have hl3 : ¬ s.toList = t.toList := by simpa using hl
            have HL := hide hl
            go_wp2_with fail
            go_quiet (fail)
            go_wp2_with fail
            go_ret
            refine ⟨ret_bool ?_, ⟨HBB.out.os, HBB.out.tape, HBB.out.output, HBB.out.size, HBB.out.block⟩⟩
            rw [HV.out]
            simp only [sameQ, HL.out, Bool.false_and, Bool.and_false]
          | true =>
            have hl3 : s.toList = t.toList := by simpa using hl
            have HL := hide hl
            go_wp2_with fail
            go_quiet (fail)
            go_wp2_with fail
            go_roundw
            case rel => exact ⟨rest, rest', j + 1, HK.out.1, by go_num, HK.out.2, HG.out, HG'.out, by rw [HV.out]; simp only [sameQ, HL.out, Bool.true_and], ⟨HBW.out.os, HBW.out.tape, HBW.out.output, HBW.out.size, HBW.out.block⟩⟩
            case measure => simp [intOf]; omega
    | cons n rest =>
      obtain ⟨n', rest', rfl⟩ : ∃ t rest', g' = t :: rest' := by cases g' with | nil => simp at hgl | cons t r => exact ⟨t, r, rfl⟩
      obtain ⟨kd, fr, ix, kids⟩ := n
      obtain ⟨kd', fr', ix', kids'⟩ := n'
      have HK : Hid (j + 1 + rest.length = l.length ∧ rest.length = rest'.length) := by unfold Hid; simp only [List.length_cons] at hj hgl; omega
      have hlt : j < l.length := by have := HK.out; omega
      have hlt' : j < m.length := by have := H1.out; omega
      obtain ⟨b1, o1, rfl, _, _, _, c0, c1, c2, su, c3, hsu⟩ := AtL.head (hg.still (Still.of_below HBW.out))
      obtain ⟨b2, o2, rfl, _, _, _, d0, d1, d2, sv, d3, hsv⟩ := AtL.head (hg'.still (Still.of_below HBW.out))
      have HSU := hide hsu
      have HSV := hide hsv
      have HG := hide hg.tail
      have HG' := hide hg'.tail
      clear hj hg hg' hgl hsu hsv
      go_wp2_with fail
      go_still_tail 10, (by kernel_rfl)
      change wpList _ _ _ _ _ wr.drew
      have HBD := hide HBW.out.drew
      have hst : Still wr wr.drew := fun _ _ h => h
      have HSU' := hide (HSU.out.still hst)
      have HSV' := hide (HSV.out.still hst)
      clear hst x0 x1 y0 y1 xl yl c0 c1 c2 c3 d0 d1 d2 d3
      generalize wr.drew = w2 at *
      go_wp2_with fail
      refine (ge_calls w2 kd ix kd' ix' fr fr' su sv kids kids' HSU'.out HSV'.out).mono ?_
      rintro e w1 ⟨rfl, hb1⟩
      have HB1 := hide (HBD.out.trans (hb1.mono HBD.out.size))
      have HBB := hide (HHB.out.trans (HB1.out.mono HHB.out.size))
      clear hb1
      cases hs : sameN kd fr ix kids kd' fr' ix' kids' with
      | false =>
        have HS := hide hs
        go_wp2_with fail
        go_ret
        refine ⟨ret_bool ?_, HBB.out⟩
        rw [HV.out]
        simp only [sameL, HS.out, Bool.false_and]
      | true =>
        have HS := hide hs
        go_wp2_with fail
        go_roundw
        case rel => exact ⟨rest, rest', j + 1, HK.out.1, by go_num, HK.out.2, HG.out, HG'.out, by rw [HV.out]; simp only [sameL, HS.out, Bool.true_and], HB1.out⟩
        case measure => simp [intOf]; omega

set_option maxHeartbeats 1600000 in
set_option maxRecDepth 100000 in
theorem eqFunc (w : World) (lu lv : Value) (l m : List Nd) (bs bs' : List Nat) (hlu : OwS w lu l bs) (hlv : OwS w lv m bs') (hw : l.length + wtL l ≤ 1048576) :
    Calls Try.prog 52 #[lu, lv, .func (.func 53) #[] #[]] w fun e w' => e = .returned (.bool (sameL l m)) ∧ Below w.heap.size w w' := by
  obtain ⟨la, lc, rfl, hll, hat⟩ := hlu.sl.at
  obtain ⟨la', lc', rfl, hlm, hat'⟩ := hlv.sl.at
  unfold maxLen at hll hlm
  have HOL := hide hlu
  have HOM := hide hlv
  have HAL := hide hat
  have HAM := hide hat'
  have HW := hide hw
  clear hlu hlv hw hat hat'
  by_cases h1 : l.length = m.length
  case neg =>
    have h1' : ((l.length : Int) != (m.length : Int)) = true := bne_iff_ne.2 (by omega)
    rw [sameL_len h1]
    clear h1
    go_enter Try.func52, Try.ntmps52
    go_wp2_with fail
    go_ret
    exact ⟨rfl, Below.refl _ _⟩
  have h1' : ((l.length : Int) != (m.length : Int)) = false := by rw [h1]; simp
  have H1 := hide h1
  clear h1
  go_enter Try.func52, Try.ntmps52
  go_wp2_with fail
  go_loopw [17] (fun iv wr => ∃ (g g' : List Nd) (j : Nat), j + g.length = l.length ∧ iv = .int .i64 j ∧ g.length = g'.length ∧ (∀ i, g[i]? = l[j + i]?) ∧ (∀ i, g'[i]? = m[j + i]?) ∧ sameL l m = sameL g g' ∧ Below w.heap.size w wr) (fun iv _ => l.length - (intOf iv).toNat)
  case atStart => exact ⟨l, m, 0, by omega, rfl, H1.out, fun i => by rw [Nat.zero_add], fun i => by rw [Nat.zero_add], rfl, Below.refl _ _⟩
  case round =>
    obtain ⟨g, g', j, hj, rfl, hgl, hg, hg', hv, hbw⟩ := hrel
    have HV := hide hv
    have HBW := hide hbw
    have HG := hide hg
    have HG' := hide hg'
    clear hv hbw hg hg'
    cases g with
    | nil =>
      obtain rfl : g' = [] := by cases g' with | nil => rfl | cons => simp at hgl
      have H5 : Hid (j = l.length) := by unfold Hid; simpa using hj
      have hge : l.length ≤ j := Nat.le_of_eq H5.out.symm
      clear hj hgl
      go_wp2_with fail
      go_ret
      exact ⟨ret_bool HV.out.symm, HBW.out⟩
    | cons n rest =>
      obtain ⟨n', rest', rfl⟩ : ∃ t rest', g' = t :: rest' := by cases g' with | nil => simp at hgl | cons t r => exact ⟨t, r, rfl⟩
      obtain ⟨kd, fr, ix, kids⟩ := n
      obtain ⟨kd', fr', ix', kids'⟩ := n'
      have HK : Hid (j + 1 + rest.length = l.length ∧ rest.length = rest'.length) := by unfold Hid; simp only [List.length_cons] at hj hgl; omega
      have hlt : j < l.length := by have := HK.out; omega
      have hlt' : j < m.length := by have := H1.out; omega
      obtain ⟨b1, o1, rfl, c0, c1, c2, su, ks, c3, hsu⟩ := OwS.get (HOL.out.same (Same.of_below HBW.out HOL.out.lt)) (show l[j]? = some ⟨kd, fr, ix, kids⟩ from (by have := HG.out 0; simpa using this.symm))
      obtain ⟨b2, o2, rfl, d0, d1, d2, sv, ks', d3, hsv⟩ := OwS.get (HOM.out.same (Same.of_below HBW.out HOM.out.lt)) (show m[j]? = some ⟨kd', fr', ix', kids'⟩ from (by have := HG'.out 0; simpa using this.symm))
      obtain ⟨ua, uc, rfl⟩ := hsu.val
      obtain ⟨va, vc, rfl⟩ := hsv.val
      have hB := (alloc_below wr (.cells #[.int .i64 kd, .string fr, .int .i64 ix, .slice ua kids.len uc] ( /- t -/ 32))).alloc (by simp) (.cells #[.int .i64 kd', .string fr', .int .i64 ix', .slice va kids'.len vc] ( /- t -/ 32))
      have HSU := hide (hsu.same (Same.of_below hB hsu.lt))
      have HSV := hide (hsv.same (Same.of_below hB hsv.lt))
      have HB := hide hB
      have hz : kids.sz ≤ 1048576 := by
        have h1 := HW.out
        have h2 := wt_mem (List.mem_of_getElem? (show l[j]? = some ⟨kd, fr, ix, kids⟩ from (by have := HG.out 0; simpa using this.symm)))
        have := F.sz_le kids
        simp only [Nd.wt] at h2
        omega
      have HZ := hide hz
      have hbl := World.block_lt_of_cell? _ _ d0
      clear hj hgl hsu hsv hB hz
      go_wp2_with fail
      refine (implSame _ kd ix kd' ix' fr fr' _ _ kids kids' ks ks' HSU.out HSV.out HZ.out).mono ?_
      rintro e w1 ⟨rfl, hb1⟩
      have HB1 := hide (HBW.out.trans ((HB.out.trans (hb1.mono HB.out.size)).mono HBW.out.size))
      clear hb1
      cases hs : sameN kd fr ix kids kd' fr' ix' kids' with
      | false =>
        have HS := hide hs
        go_wp2_with fail
        go_ret
        refine ⟨ret_bool ?_, HB1.out⟩
        rw [HV.out]
        simp only [sameL, HS.out, Bool.false_and]
      | true =>
        have HS := hide hs
        go_wp2_with fail
        go_roundw
        case rel => exact ⟨rest, rest', j + 1, HK.out.1, by go_num, HK.out.2, fun i => by have := HG.out (i + 1); rw [show j + 1 + i = j + (i + 1) by omega, ← this]; simp, fun i => by have := HG'.out (i + 1); rw [show j + 1 + i = j + (i + 1) by omega, ← this]; simp, by rw [HV.out]; simp only [sameL, HS.out, Bool.true_and], HB1.out⟩
        case measure => simp [intOf]; omega

set_option maxHeartbeats 1600000 in
set_option maxRecDepth 100000 in
theorem eqStrings (w : World) (lu lv : Value) (l m : List ByteArray) (hlu : SlG elS w lu l) (hlv : SlG elS w lv m) :
    Calls Try.prog 54 #[lu, lv] w fun e w' => e = .returned (.bool (sameQ l m)) ∧ Below w.heap.size w w' := by
  obtain ⟨la, lc, rfl, hll, hat⟩ := hlu.at
  obtain ⟨la', lc', rfl, hlm, hat'⟩ := hlv.at
  unfold maxLen at hll hlm
  have HAL := hide hat
  have HAM := hide hat'
  clear hlu hlv hat hat'
  by_cases h1 : l.length = m.length
  case neg =>
    have h1' : ((l.length : Int) != (m.length : Int)) = true := bne_iff_ne.2 (by omega)
    rw [sameQ_len h1]
    clear h1
    go_enter Try.func54, Try.ntmps54
    go_wp2_with fail
    go_ret
    exact ⟨rfl, Below.refl _ _⟩
  have h1' : ((l.length : Int) != (m.length : Int)) = false := by rw [h1]; simp
  have H1 := hide h1
  clear h1
  go_enter Try.func54, Try.ntmps54
  go_wp2_with fail
  go_loopw [13] (fun iv wr => ∃ (g g' : List ByteArray) (j : Nat), j + g.length = l.length ∧ iv = .int .i64 j ∧ g.length = g'.length ∧ AtG elS w la j g ∧ AtG elS w la' j g' ∧ sameQ l m = sameQ g g' ∧ Below w.heap.size w wr) (fun iv _ => l.length - (intOf iv).toNat)
  case atStart => exact ⟨l, m, 0, by omega, rfl, H1.out, HAL.out, HAM.out, rfl, Below.refl _ _⟩
  case round =>
    obtain ⟨g, g', j, hj, rfl, hgl, hg, hg', hv, hbw⟩ := hrel
    have HV := hide hv
    have HBW := hide hbw
    cases g with
    | nil =>
      obtain rfl : g' = [] := by cases g' with | nil => rfl | cons => simp at hgl
      have H5 : Hid (j = l.length) := by unfold Hid; simpa using hj
      have hge : l.length ≤ j := Nat.le_of_eq H5.out.symm
      clear hj hg hg' hgl hv hbw
      go_wp2_with fail
      go_ret
      exact ⟨ret_bool HV.out.symm, HBW.out⟩
    | cons s rest =>
      obtain ⟨t, rest', rfl⟩ : ∃ t rest', g' = t :: rest' := by cases g' with | nil => simp at hgl | cons t r => exact ⟨t, r, rfl⟩
      have HK : Hid (j + 1 + rest.length = l.length ∧ rest.length = rest'.length) := by unfold Hid; simp only [List.length_cons] at hj hgl; omega
      have hlt : j < l.length := by have := HK.out; omega
      have hlt' : j < m.length := by have := H1.out; omega
      obtain ⟨b1, o1, rfl, _, c0⟩ := AtS.head (hg.still (Still.of_below hbw))
      obtain ⟨b2, o2, rfl, _, d0⟩ := AtS.head (hg'.still (Still.of_below hbw))
      have HG := hide hg.tail
      have HG' := hide hg'.tail
      clear hj hg hg' hgl hv hbw
      cases hl : (s.toList == t.toList) with
      | false =>
        have hl3 : ¬ s.toList = t.toList := by simpa using hl
        have HL := hide hl
        go_wp2_with fail
        go_quiet (fail)
        go_wp2_with fail
        go_ret
        refine ⟨ret_bool ?_, ⟨HBW.out.os, HBW.out.tape, HBW.out.output, HBW.out.size, HBW.out.block⟩⟩
        rw [HV.out]
        simp only [sameQ, HL.out, Bool.false_and]
      | true =>
        have hl3 : s.toList = t.toList := by simpa using hl
        have HL := hide hl
        go_wp2_with fail
        go_quiet (fail)
        go_wp2_with fail
        go_roundw
        case rel => exact ⟨rest, rest', j + 1, HK.out.1, by go_num, HK.out.2, HG.out, HG'.out, by rw [HV.out]; simp only [sameQ, HL.out, Bool.true_and], ⟨HBW.out.os, HBW.out.tape, HBW.out.output, HBW.out.size, HBW.out.block⟩⟩
        case measure => simp [intOf]; omega

set_option maxHeartbeats 800000 in
set_option maxRecDepth 100000 in
/-- NetworkEqual of the program. -/
theorem implNetEq (w : World) (lu qu lv qv : Value) (l m : List Nd) (q p : List ByteArray) (bs cs bs' cs' : List Nat) (hlu : OwS w lu l bs) (hqu : OwG elS w qu q cs) (hlv : OwS w lv m bs') (hqv : OwG elS w qv p cs') (hw : l.length + wtL l ≤ 1048576) :
    Calls Try.prog 21 #[.agg #[lu, qu], .agg #[lv, qv]] w fun e w' => e = .returned (.bool (sameL l m && sameQ q p)) ∧ Below w.heap.size w w' := by
  obtain ⟨la, lc, rfl⟩ := hlu.val
  obtain ⟨la', lc', rfl⟩ := hlv.val
  obtain ⟨qa, qc, rfl⟩ := hqu.val
  obtain ⟨qa', qc', rfl⟩ := hqv.val
  have hB := (alloc_below w (.cells #[.slice la l.length lc, .slice qa q.length qc] ( /- t -/ 45))).alloc (by simp) (.cells #[.slice la' m.length lc', .slice qa' p.length qc'] ( /- t -/ 45))
  have hbx := two_nets w (.slice la l.length lc) (.slice qa q.length qc) (.slice la' m.length lc') (.slice qa' p.length qc') ( /- t -/ 45)
  have HAL := hide (hlu.same (Same.of_below hB hlu.lt))
  have HAM := hide (hlv.same (Same.of_below hB hlv.lt))
  have HAQ := hide (hqu.sl.still (Still.of_below hB))
  have HAP := hide (hqv.sl.still (Still.of_below hB))
  have HBX := hide hbx
  have HHB := hide hB
  clear hlu hqu hlv hqv hB hbx
  go_enter Try.func21, Try.ntmps21
  go_wp2_with fail
  generalize (w.alloc (.cells #[.slice la l.length lc, .slice qa q.length qc] ( /- t -/ 45))).alloc (.cells #[.slice la' m.length lc', .slice qa' p.length qc'] ( /- t -/ 45)) = W at *
  refine (eqFunc W _ _ l m bs bs' HAL.out HAM.out hw).mono ?_
  rintro e w1 ⟨rfl, hb1⟩
  obtain ⟨-, x1⟩ := (HBX.out.1.below hb1).cells
  obtain ⟨-, y1⟩ := (HBX.out.2.below hb1).cells
  have HQ1 := hide (HAQ.out.still (Still.of_below hb1))
  have HP1 := hide (HAP.out.still (Still.of_below hb1))
  have HB1 := hide (HHB.out.trans (hb1.mono HHB.out.size))
  clear hb1
  cases hs : sameL l m with
  | false =>
    have HS := hide hs
    go_wp2_with fail
    go_ret
    exact ⟨ret_bool (by rw [HS.out, Bool.false_and]), HB1.out⟩
  | true =>
    have HS := hide hs
    go_wp2_with fail
    refine (eqStrings w1 _ _ q p HQ1.out HP1.out).mono ?_
    rintro e w2 ⟨rfl, hb2⟩
    have hb3 := HB1.out.trans (hb2.mono HB1.out.size)
    clear hb2
    go_wp2_with fail
    go_ret
    exact ⟨ret_bool (by rw [HS.out, Bool.true_and]), hb3⟩
end Go.Proofs.Ytodhgpjcklhboaa.Lo.Ne
