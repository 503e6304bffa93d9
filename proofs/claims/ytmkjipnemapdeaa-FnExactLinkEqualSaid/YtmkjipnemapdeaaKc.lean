/- LinkEqual of the model and of the program. -/
import Derived.Test.YtmkjipnemapdeaaKb
namespace Go.Proofs.Ytmkjipnemapdeaa.Tk
open Go.RowKit

def sameP : List Pkt → List Pkt → Bool
  | [], [] => true
  | n :: r, m :: s => ((n.q == m.q) && (n.l.toList == m.l.toList)) && sameP r s
  | _, _ => false
def sameI : List Int → List Int → Bool
  | [], [] => true
  | n :: r, m :: s => (n == m) && sameI r s
  | _, _ => false
theorem sameP_len : ∀ {l m : List Pkt}, l.length ≠ m.length → sameP l m = false
  | [], [], h => absurd rfl h
  | [], _ :: _, _ => rfl
  | _ :: _, [], _ => rfl
  | n :: r, m :: s, h => by simp only [sameP]; rw [sameP_len (by simpa using h), Bool.and_false]
theorem sameI_len : ∀ {l m : List Int}, l.length ≠ m.length → sameI l m = false
  | [], [], h => absurd rfl h
  | [], _ :: _, _ => rfl
  | _ :: _, [], _ => rfl
  | n :: r, m :: s, h => by simp only [sameI]; rw [sameI_len (by simpa using h), Bool.and_false]
/-- Whether two links are equal. -/
def sameK (m n : Lnk) : Bool :=
  (m.ba == n.ba) && ((m.wi.toList == n.wi.toList) && ((m.ex == n.ex) && ((m.de.toList == n.de.toList) && (sameP m.ps n.ps && sameI m.ac n.ac))))
theorem str_eq {a b : ByteArray} (h : (a.toList == b.toList) = true) : a = b := by
  have h := beq_iff_eq.1 h
  rw [ByteArray.toList_eq, ByteArray.toList_eq] at h
  exact ByteArray.ext (Array.toList_inj.1 h)

theorem pktU : Try.prog.underlying ( /- t -/ 36) = some (.struct (Try.prog.fieldsOf ( /- t -/ 36))) := by kernel_rfl
theorem pktS : Try.prog.stoodInHeld ( /- t -/ 36) = false := by kernel_rfl
theorem pkt_equal (w : World) (q q' : Int) (l l' : ByteArray) : (Op.equal ( /- t -/ 36) (.agg #[.int .i64 q, .string l]) (.agg #[.int .i64 q', .string l'])).run Try.prog w = .ok ((q == q') && (l.toList == l'.toList)) w := by
  unfold Op.equal
  rw [show Op.maxDepth = 9999 + 1 from rfl, run_equalIn_agg w 9999 _ _ _ pktU pktS]
  simp only [Program.fieldsOf, Try.underlying36]
  simp only [Op.eqFields]
  go_simp
  cases h1 : (q == q') <;> cases h2 : (l.toList == l'.toList) <;> simp_all
theorem pkt_neq (w : World) (q q' : Int) (l l' : ByteArray) : (binOp .neq ( /- t -/ 36) (.agg #[.int .i64 q, .string l]) (.agg #[.int .i64 q', .string l'])).run Try.prog w = .ok (.bool (!((q == q') && (l.toList == l'.toList)))) w := by
  have h := pkt_equal w q q' l l'
  unfold binOp
  simp [h]

/-- The two boxes of the arguments. -/
theorem two_boxes (w : World) (u0 u1 u2 u3 u4 u5 v0 v1 v2 v3 v4 v5 : Value) (t : TypeId) :
    Box6 ((w.alloc (.cells #[u0, u1, u2, u3, u4, u5] t)).alloc (.cells #[v0, v1, v2, v3, v4, v5] t)) w.heap.size u0 u1 u2 u3 u4 u5 ∧ Box6 ((w.alloc (.cells #[u0, u1, u2, u3, u4, u5] t)).alloc (.cells #[v0, v1, v2, v3, v4, v5] t)) (w.heap.size + 1) v0 v1 v2 v3 v4 v5 := by
  refine ⟨(Box6.now w u0 u1 u2 u3 u4 u5 t).below (alloc_below _ _), ?_⟩
  have := Box6.now (w.alloc (.cells #[u0, u1, u2, u3, u4, u5] t)) v0 v1 v2 v3 v4 v5 t
  simpa using this

set_option maxHeartbeats 1600000 in
set_option maxRecDepth 100000 in
/-- LinkEqual of the model. -/
theorem specLinkEq (w : World) (m n : Lnk) (lu qu lv qv : Value) (hlu : SlG elP w lu m.ps) (hqu : SlG elI w qu m.ac) (hlv : SlG elP w lv n.ps) (hqv : SlG elI w qv n.ac) :
    Calls Try.prog 5 #[.agg #[.int .i64 m.ba, .string m.wi, .int .i64 m.ex, .string m.de, lu, qu], .agg #[.int .i64 n.ba, .string n.wi, .int .i64 n.ex, .string n.de, lv, qv]] w fun e w' => e = .returned (.bool (sameK m n)) ∧ Below w.heap.size w w' := by
  obtain ⟨la, lc, rfl, hll, hal⟩ := hlu.at
  obtain ⟨la', lc', rfl, hlm, ham⟩ := hlv.at
  obtain ⟨qa, qc, rfl, hlq, haq⟩ := hqu.at
  obtain ⟨qa', qc', rfl, hlp, hap⟩ := hqv.at
  unfold maxLen at hll hlm hlq hlp
  have hB := (alloc_below w (.cells #[.int .i64 m.ba, .string m.wi, .int .i64 m.ex, .string m.de, .slice la m.ps.length lc, .slice qa m.ac.length qc] ( /- t -/ 30))).alloc (by simp) (.cells #[.int .i64 n.ba, .string n.wi, .int .i64 n.ex, .string n.de, .slice la' n.ps.length lc', .slice qa' n.ac.length qc'] ( /- t -/ 30))
  have hbx := two_boxes w (.int .i64 m.ba) (.string m.wi) (.int .i64 m.ex) (.string m.de) (.slice la m.ps.length lc) (.slice qa m.ac.length qc) (.int .i64 n.ba) (.string n.wi) (.int .i64 n.ex) (.string n.de) (.slice la' n.ps.length lc') (.slice qa' n.ac.length qc') ( /- t -/ 30)
  have HSL := hide (SlG.still (Still.of_below hB) hlu)
  have HSM := hide (SlG.still (Still.of_below hB) hlv)
  have HSQ := hide (SlG.still (Still.of_below hB) hqu)
  have HSP := hide (SlG.still (Still.of_below hB) hqv)
  have HAL := hide (hal.still (Still.of_below hB))
  have HAM := hide (ham.still (Still.of_below hB))
  have HAQ := hide (haq.still (Still.of_below hB))
  have HAP := hide (hap.still (Still.of_below hB))
  have HBX := hide hbx
  have HHB := hide hB
  clear hlu hqu hlv hqv hal ham haq hap hB hbx
  by_cases h_ba : (m.ba == n.ba) = true
  case neg =>
    have h_ba : (m.ba == n.ba) = false := by simpa using h_ba
    have hk : sameK m n = false := by unfold sameK; rw [h_ba]; simp
    have hne : (m.ba != n.ba) = true := by simp only [bne, h_ba]; rfl
    rw [hk]
    clear hk
    go_enter Try.func5, Try.ntmps5
    go_wp2_with fail
    all_goals
      go_ret
      exact ⟨rfl, HHB.out⟩
  have hne_ba : (m.ba != n.ba) = false := by simp only [bne, h_ba]; rfl
  by_cases h_wi : (m.wi.toList == n.wi.toList) = true
  case neg =>
    have h_wi : (m.wi.toList == n.wi.toList) = false := by simpa using h_wi
    have hk : sameK m n = false := by unfold sameK; rw [h_wi]; simp
    have hne : (m.wi.toList != n.wi.toList) = true := by simp only [bne, h_wi]; rfl
    rw [hk]
    clear hk
    go_enter Try.func5, Try.ntmps5
    go_wp2_with fail
    all_goals
      go_ret
      exact ⟨rfl, HHB.out⟩
  have hne_wi : (m.wi.toList != n.wi.toList) = false := by simp only [bne, h_wi]; rfl
  by_cases h_ex : (m.ex == n.ex) = true
  case neg =>
    have h_ex : (m.ex == n.ex) = false := by simpa using h_ex
    have hk : sameK m n = false := by unfold sameK; rw [h_ex]; simp
    have hne : (m.ex != n.ex) = true := by simp only [bne, h_ex]; rfl
    rw [hk]
    clear hk
    go_enter Try.func5, Try.ntmps5
    go_wp2_with fail
    all_goals
      go_ret
      exact ⟨rfl, HHB.out⟩
  have hne_ex : (m.ex != n.ex) = false := by simp only [bne, h_ex]; rfl
  by_cases h_de : (m.de.toList == n.de.toList) = true
  case neg =>
    have h_de : (m.de.toList == n.de.toList) = false := by simpa using h_de
    have hk : sameK m n = false := by unfold sameK; rw [h_de]; simp
    have hne : (m.de.toList != n.de.toList) = true := by simp only [bne, h_de]; rfl
    rw [hk]
    clear hk
    go_enter Try.func5, Try.ntmps5
    go_wp2_with fail
    all_goals
      go_ret
      exact ⟨rfl, HHB.out⟩
  have hne_de : (m.de.toList != n.de.toList) = false := by simp only [bne, h_de]; rfl
  have HK0 : Hid (sameK m n = (sameP m.ps n.ps && sameI m.ac n.ac)) := by unfold Hid sameK; rw [h_ba, h_wi, h_ex, h_de]; simp
  by_cases h1 : m.ps.length = n.ps.length
  case neg =>
    have h1' : ((m.ps.length : Int) != (n.ps.length : Int)) = true := bne_iff_ne.2 (by omega)
    rw [HK0.out, sameP_len h1]
    clear h1
    go_enter Try.func5, Try.ntmps5
    go_wp2_with fail
    go_ret
    exact ⟨rfl, HHB.out⟩
  have h1' : ((m.ps.length : Int) != (n.ps.length : Int)) = false := by rw [h1]; simp
  have H1 := hide h1
  clear h1
  by_cases h2 : m.ac.length = n.ac.length
  case neg =>
    have h2' : ((m.ac.length : Int) != (n.ac.length : Int)) = true := bne_iff_ne.2 (by omega)
    rw [HK0.out, sameI_len h2, Bool.and_false]
    clear h2
    go_enter Try.func5, Try.ntmps5
    go_wp2_with fail
    go_ret
    exact ⟨rfl, HHB.out⟩
  have h2' : ((m.ac.length : Int) != (n.ac.length : Int)) = false := by rw [h2]; simp
  have H2 := hide h2
  clear h2
  rw [HK0.out]
  go_enter Try.func5, Try.ntmps5
  go_wp2_with fail
  generalize (w.alloc (.cells #[.int .i64 m.ba, .string m.wi, .int .i64 m.ex, .string m.de, .slice la m.ps.length lc, .slice qa m.ac.length qc] ( /- t -/ 30))).alloc (.cells #[.int .i64 n.ba, .string n.wi, .int .i64 n.ex, .string n.de, .slice la' n.ps.length lc', .slice qa' n.ac.length qc'] ( /- t -/ 30)) = W at *
  go_loopw [5] (fun iv wr => ∃ (g g' : List Pkt) (j : Nat), j + g.length = m.ps.length ∧ iv = .int .i64 j ∧ g.length = g'.length ∧ AtG elP W la j g ∧ AtG elP W la' j g' ∧ sameP m.ps n.ps = sameP g g' ∧ Below W.heap.size W wr) (fun iv _ => m.ps.length - (intOf iv).toNat)
  case atStart => exact ⟨m.ps, n.ps, 0, by omega, rfl, H1.out, HAL.out, HAM.out, rfl, Below.refl _ _⟩
  case round =>
    obtain ⟨g, g', j, hj, rfl, hgl, hg, hg', hv, hbw⟩ := hrel
    have HV := hide hv
    have HBW := hide hbw
    obtain ⟨x0, x1, x2, x3, x4, x5⟩ := (HBX.out.1.below hbw).cells
    obtain ⟨y0, y1, y2, y3, y4, y5⟩ := (HBX.out.2.below hbw).cells
    have xl := (HBX.out.1.below hbw).lt
    have yl := (HBX.out.2.below hbw).lt
    clear hv hbw
    cases g with
    | nil =>
      obtain rfl : g' = [] := by cases g' with | nil => rfl | cons => simp at hgl
      have H5 : Hid (j = m.ps.length) := by unfold Hid; simpa using hj
      have hge : m.ps.length ≤ j := Nat.le_of_eq H5.out.symm
      clear hj hg hg' hgl
      have HVL : Hid (sameP m.ps n.ps = true) := hide HV.out
      go_wp2_with fail
      go_loopw [6] (fun iv wr => ∃ (g g' : List Int) (j : Nat), j + g.length = m.ac.length ∧ iv = .int .i64 j ∧ g.length = g'.length ∧ AtG elI W qa j g ∧ AtG elI W qa' j g' ∧ sameI m.ac n.ac = sameI g g' ∧ Below W.heap.size W wr) (fun iv _ => m.ac.length - (intOf iv).toNat)
      case atStart => exact ⟨m.ac, n.ac, 0, by omega, rfl, H2.out, HAQ.out, HAP.out, rfl, HBW.out⟩
      case round =>
        clear x0 x1 x2 x3 x4 x5 y0 y1 y2 y3 y4 y5 xl yl HBW hge H5
        obtain ⟨g, g', j, hj, rfl, hgl, hg, hg', hv, hbw⟩ := hrel
        have HV := hide hv
        have HBW := hide hbw
        obtain ⟨x0, x1, x2, x3, x4, x5⟩ := (HBX.out.1.below hbw).cells
        obtain ⟨y0, y1, y2, y3, y4, y5⟩ := (HBX.out.2.below hbw).cells
        have xl := (HBX.out.1.below hbw).lt
        have yl := (HBX.out.2.below hbw).lt
        have HBB := hide (HHB.out.trans (hbw.mono HHB.out.size))
        cases g with
        | nil =>
          obtain rfl : g' = [] := by cases g' with | nil => rfl | cons => simp at hgl
          have H5 : Hid (j = m.ac.length) := by unfold Hid; simpa using hj
          have hge : m.ac.length ≤ j := Nat.le_of_eq H5.out.symm
          clear hj hg hg' hgl hv hbw
          go_wp2_with fail
          go_ret
          exact ⟨ret_bool (by rw [HVL.out, HV.out]; rfl), HBB.out⟩
        | cons s rest =>
          obtain ⟨t, rest', rfl⟩ : ∃ t rest', g' = t :: rest' := by cases g' with | nil => simp at hgl | cons t r => exact ⟨t, r, rfl⟩
          have HK : Hid (j + 1 + rest.length = m.ac.length ∧ rest.length = rest'.length) := by unfold Hid; simp only [List.length_cons] at hj hgl; omega
          have hlt : j < m.ac.length := by have := HK.out; omega
          have hlt' : j < n.ac.length := by have := H2.out; omega
          obtain ⟨b1, o1, rfl, _, c0⟩ := AtI.head (hg.still (Still.of_below hbw))
          obtain ⟨b2, o2, rfl, _, d0⟩ := AtI.head (hg'.still (Still.of_below hbw))
          have HG := hide hg.tail
          have HG' := hide hg'.tail
          clear hj hg hg' hgl hv hbw
          cases hl : (s == t) with
          | false =>
            have hl2 : (s != t) = true := by simp only [bne, hl]; rfl
            have hl3 : ¬ s = t := by simpa using hl
            have HL := hide hl
            go_wp2_with fail
            go_quiet (fail)
            go_wp2_with fail
            go_ret
            refine ⟨ret_bool ?_, ⟨HBB.out.os, HBB.out.tape, HBB.out.output, HBB.out.size, HBB.out.block⟩⟩
            rw [HV.out]
            simp only [sameI, HL.out, Bool.false_and, Bool.and_false]
          | true =>
            have hl2 : (s != t) = false := by simp only [bne, hl]; rfl
            have hl3 : s = t := by simpa using hl
            have HL := hide hl
            go_wp2_with fail
            go_quiet (fail)
            go_wp2_with fail
            go_roundw
            case rel => exact ⟨rest, rest', j + 1, HK.out.1, by go_num, HK.out.2, HG.out, HG'.out, by rw [HV.out]; simp only [sameI, HL.out, Bool.true_and], ⟨HBW.out.os, HBW.out.tape, HBW.out.output, HBW.out.size, HBW.out.block⟩⟩
            case measure => simp [intOf]; omega
    | cons x rest =>
      obtain ⟨x', rest', rfl⟩ : ∃ t rest', g' = t :: rest' := by cases g' with | nil => simp at hgl | cons t r => exact ⟨t, r, rfl⟩
      obtain ⟨q, lb⟩ := x
      obtain ⟨q', lb'⟩ := x'
      have HK : Hid (j + 1 + rest.length = m.ps.length ∧ rest.length = rest'.length) := by unfold Hid; simp only [List.length_cons] at hj hgl; omega
      have hlt : j < m.ps.length := by have := HK.out; omega
      have hlt' : j < n.ps.length := by have := H1.out; omega
      obtain ⟨b1, o1, rfl, _, _, c0, c1⟩ := AtP.head (hg.still (Still.of_below HBW.out))
      obtain ⟨b2, o2, rfl, _, _, d0, d1⟩ := AtP.head (hg'.still (Still.of_below HBW.out))
      have HG := hide hg.tail
      have HG' := hide hg'.tail
      have HBB := hide (HHB.out.trans (HBW.out.mono HHB.out.size))
      clear hj hg hg' hgl
      cases hs : ((q == q') && (lb.toList == lb'.toList)) with
      | false =>
        have hrun : ∀ W : World, (binOp .neq ( /- t -/ 36) (.agg #[.int .i64 q, .string lb]) (.agg #[.int .i64 q', .string lb'])).run Try.prog W = .ok (.bool true) W := fun W => by rw [pkt_neq, hs]; rfl
        have HS := hide hs
        clear hs
        go_wp2_with fail
        go_quiet (fail)
        go_wp2_with fail
        go_ret
        refine ⟨ret_bool ?_, ⟨HBB.out.os, HBB.out.tape, HBB.out.output, HBB.out.size, HBB.out.block⟩⟩
        rw [HV.out]
        simp only [sameP, HS.out, Bool.false_and]
      | true =>
        have hrun : ∀ W : World, (binOp .neq ( /- t -/ 36) (.agg #[.int .i64 q, .string lb]) (.agg #[.int .i64 q', .string lb'])).run Try.prog W = .ok (.bool false) W := fun W => by rw [pkt_neq, hs]; rfl
        have HS := hide hs
        clear hs
        go_wp2_with fail
        go_quiet (fail)
        go_wp2_with fail
        go_roundw
        case rel => exact ⟨rest, rest', j + 1, HK.out.1, by go_num, HK.out.2, HG.out, HG'.out, by rw [HV.out]; simp only [sameP, HS.out, Bool.true_and], ⟨HBW.out.os, HBW.out.tape, HBW.out.output, HBW.out.size, HBW.out.block⟩⟩
        case measure => simp [intOf]; omega

set_option maxHeartbeats 1600000 in
set_option maxRecDepth 100000 in
theorem eqInts (w : World) (lu lv : Value) (l m : List Int) (hlu : SlG elI w lu l) (hlv : SlG elI w lv m) :
    Calls Try.prog 14 #[lu, lv] w fun e w' => e = .returned (.bool (sameI l m)) ∧ Below w.heap.size w w' := by
  obtain ⟨la, lc, rfl, hll, hat⟩ := hlu.at
  obtain ⟨la', lc', rfl, hlm, hat'⟩ := hlv.at
  unfold maxLen at hll hlm
  have HAL := hide hat
  have HAM := hide hat'
  clear hlu hlv hat hat'
  by_cases h1 : l.length = m.length
  case neg =>
    have h1' : ((l.length : Int) != (m.length : Int)) = true := bne_iff_ne.2 (by omega)
    rw [sameI_len h1]
    clear h1
    go_enter Try.func14, Try.ntmps14
    go_wp2_with fail
    go_ret
    exact ⟨rfl, Below.refl _ _⟩
  have h1' : ((l.length : Int) != (m.length : Int)) = false := by rw [h1]; simp
  have H1 := hide h1
  clear h1
  go_enter Try.func14, Try.ntmps14
  go_wp2_with fail
  go_loopw [13] (fun iv wr => ∃ (g g' : List Int) (j : Nat), j + g.length = l.length ∧ iv = .int .i64 j ∧ g.length = g'.length ∧ AtG elI w la j g ∧ AtG elI w la' j g' ∧ sameI l m = sameI g g' ∧ Below w.heap.size w wr) (fun iv _ => l.length - (intOf iv).toNat)
  case atStart => exact ⟨l, m, 0, by omega, rfl, H1.out, HAL.out, HAM.out, rfl, Below.refl _ _⟩
  case round =>
    obtain ⟨g, g', j, hj, rfl, hgl, hg, hg', hv, hbw⟩ := hrel
    have HV := hide hv
    have HBW := hide hbw
    cases g with
    | nil =>
      obtain rfl : g' = [] := by cases g' with | nil => rfl | cons => simp at hgl
      have H5 : Hid (j = l.length) := by unfold Hid; simpa using hj
      have hge : l.length ≤ j := Nat.le_of_eq H5.out.symm
      clear hj hg hg' hgl hv hbw
      go_wp2_with fail
      go_ret
      exact ⟨ret_bool HV.out.symm, HBW.out⟩
    | cons s rest =>
      obtain ⟨t, rest', rfl⟩ : ∃ t rest', g' = t :: rest' := by cases g' with | nil => simp at hgl | cons t r => exact ⟨t, r, rfl⟩
      skip
      have HK : Hid (j + 1 + rest.length = l.length ∧ rest.length = rest'.length) := by unfold Hid; simp only [List.length_cons] at hj hgl; omega
      have hlt : j < l.length := by have := HK.out; omega
      have hlt' : j < m.length := by have := H1.out; omega
      obtain ⟨b1, o1, rfl, _, c0⟩ := AtI.head (hg.still (Still.of_below hbw))
      obtain ⟨b2, o2, rfl, _, d0⟩ := AtI.head (hg'.still (Still.of_below hbw))
      have HG := hide hg.tail
      have HG' := hide hg'.tail
      clear hj hg hg' hgl hv hbw
      cases hl : (s == t) with
      | false =>
        have hl2 : (s != t) = true := by simp only [bne, hl]; rfl
        have hl3 : ¬ s = t := by simpa using hl
        have HL := hide hl
        go_wp2_with fail
        go_quiet (fail)
        go_wp2_with fail
        go_ret
        refine ⟨ret_bool ?_, ⟨HBW.out.os, HBW.out.tape, HBW.out.output, HBW.out.size, HBW.out.block⟩⟩
        rw [HV.out]
        simp only [sameI, HL.out, Bool.false_and]
      | true =>
        have hl2 : (s != t) = false := by simp only [bne, hl]; rfl
        have hl3 : s = t := by simpa using hl
        have HL := hide hl
        go_wp2_with fail
        go_quiet (fail)
        go_wp2_with fail
        go_roundw
        case rel => exact ⟨rest, rest', j + 1, HK.out.1, by go_num, HK.out.2, HG.out, HG'.out, by rw [HV.out]; simp only [sameI, HL.out, Bool.true_and], ⟨HBW.out.os, HBW.out.tape, HBW.out.output, HBW.out.size, HBW.out.block⟩⟩
        case measure => simp [intOf]; omega

set_option maxHeartbeats 1600000 in
set_option maxRecDepth 100000 in
theorem eqPkts (w : World) (lu lv : Value) (l m : List Pkt) (hlu : SlG elP w lu l) (hlv : SlG elP w lv m) :
    Calls Try.prog 13 #[lu, lv] w fun e w' => e = .returned (.bool (sameP l m)) ∧ Below w.heap.size w w' := by
  obtain ⟨la, lc, rfl, hll, hat⟩ := hlu.at
  obtain ⟨la', lc', rfl, hlm, hat'⟩ := hlv.at
  unfold maxLen at hll hlm
  have HAL := hide hat
  have HAM := hide hat'
  clear hlu hlv hat hat'
  by_cases h1 : l.length = m.length
  case neg =>
    have h1' : ((l.length : Int) != (m.length : Int)) = true := bne_iff_ne.2 (by omega)
    rw [sameP_len h1]
    clear h1
    go_enter Try.func13, Try.ntmps13
    go_wp2_with fail
    go_ret
    exact ⟨rfl, Below.refl _ _⟩
  have h1' : ((l.length : Int) != (m.length : Int)) = false := by rw [h1]; simp
  have H1 := hide h1
  clear h1
  go_enter Try.func13, Try.ntmps13
  go_wp2_with fail
  go_loopw [13] (fun iv wr => ∃ (g g' : List Pkt) (j : Nat), j + g.length = l.length ∧ iv = .int .i64 j ∧ g.length = g'.length ∧ AtG elP w la j g ∧ AtG elP w la' j g' ∧ sameP l m = sameP g g' ∧ Below w.heap.size w wr) (fun iv _ => l.length - (intOf iv).toNat)
  case atStart => exact ⟨l, m, 0, by omega, rfl, H1.out, HAL.out, HAM.out, rfl, Below.refl _ _⟩
  case round =>
    obtain ⟨g, g', j, hj, rfl, hgl, hg, hg', hv, hbw⟩ := hrel
    have HV := hide hv
    have HBW := hide hbw
    cases g with
    | nil =>
      obtain rfl : g' = [] := by cases g' with | nil => rfl | cons => simp at hgl
      have H5 : Hid (j = l.length) := by unfold Hid; simpa using hj
      have hge : l.length ≤ j := Nat.le_of_eq H5.out.symm
      clear hj hg hg' hgl hv hbw
      go_wp2_with fail
      go_ret
      exact ⟨ret_bool HV.out.symm, HBW.out⟩
    | cons s rest =>
      obtain ⟨t, rest', rfl⟩ : ∃ t rest', g' = t :: rest' := by cases g' with | nil => simp at hgl | cons t r => exact ⟨t, r, rfl⟩
      obtain ⟨q, lb⟩ := s
      obtain ⟨q', lb'⟩ := t
      have HK : Hid (j + 1 + rest.length = l.length ∧ rest.length = rest'.length) := by unfold Hid; simp only [List.length_cons] at hj hgl; omega
      have hlt : j < l.length := by have := HK.out; omega
      have hlt' : j < m.length := by have := H1.out; omega
      obtain ⟨b1, o1, rfl, _, _, c0, c1⟩ := AtP.head (hg.still (Still.of_below hbw))
      obtain ⟨b2, o2, rfl, _, _, d0, d1⟩ := AtP.head (hg'.still (Still.of_below hbw))
      have HG := hide hg.tail
      have HG' := hide hg'.tail
      clear hj hg hg' hgl hv hbw
      cases hl : ((q == q') && (lb.toList == lb'.toList)) with
      | false =>
        have hrun : ∀ W : World, (binOp .neq ( /- t -/ 36) (.agg #[.int .i64 q, .string lb]) (.agg #[.int .i64 q', .string lb'])).run Try.prog W = .ok (.bool true) W := fun W => by rw [pkt_neq, hl]; rfl
        have HL := hide hl
        go_wp2_with fail
        go_quiet (fail)
        go_wp2_with fail
        go_ret
        refine ⟨ret_bool ?_, ⟨HBW.out.os, HBW.out.tape, HBW.out.output, HBW.out.size, HBW.out.block⟩⟩
        rw [HV.out]
        simp only [sameP, HL.out, Bool.false_and]
      | true =>
        have hrun : ∀ W : World, (binOp .neq ( /- t -/ 36) (.agg #[.int .i64 q, .string lb]) (.agg #[.int .i64 q', .string lb'])).run Try.prog W = .ok (.bool false) W := fun W => by rw [pkt_neq, hl]; rfl
        have HL := hide hl
        go_wp2_with fail
        go_quiet (fail)
        go_wp2_with fail
        go_roundw
        case rel => exact ⟨rest, rest', j + 1, HK.out.1, by go_num, HK.out.2, HG.out, HG'.out, by rw [HV.out]; simp only [sameP, HL.out, Bool.true_and], ⟨HBW.out.os, HBW.out.tape, HBW.out.output, HBW.out.size, HBW.out.block⟩⟩
        case measure => simp [intOf]; omega

set_option maxHeartbeats 1600000 in
set_option maxRecDepth 100000 in
/-- LinkEqual of the program. -/
theorem implLinkEq (w : World) (m n : Lnk) (lu qu lv qv : Value) (hlu : SlG elP w lu m.ps) (hqu : SlG elI w qu m.ac) (hlv : SlG elP w lv n.ps) (hqv : SlG elI w qv n.ac) :
    Calls Try.prog 7 #[.agg #[.int .i64 m.ba, .string m.wi, .int .i64 m.ex, .string m.de, lu, qu], .agg #[.int .i64 n.ba, .string n.wi, .int .i64 n.ex, .string n.de, lv, qv]] w fun e w' => e = .returned (.bool (sameK m n)) ∧ Below w.heap.size w w' := by
  obtain ⟨la, lc, rfl, hll, hal⟩ := hlu.at
  obtain ⟨la', lc', rfl, hlm, ham⟩ := hlv.at
  obtain ⟨qa, qc, rfl, hlq, haq⟩ := hqu.at
  obtain ⟨qa', qc', rfl, hlp, hap⟩ := hqv.at
  unfold maxLen at hll hlm hlq hlp
  have hB := (alloc_below w (.cells #[.int .i64 m.ba, .string m.wi, .int .i64 m.ex, .string m.de, .slice la m.ps.length lc, .slice qa m.ac.length qc] ( /- t -/ 30))).alloc (by simp) (.cells #[.int .i64 n.ba, .string n.wi, .int .i64 n.ex, .string n.de, .slice la' n.ps.length lc', .slice qa' n.ac.length qc'] ( /- t -/ 30))
  have hbx := two_boxes w (.int .i64 m.ba) (.string m.wi) (.int .i64 m.ex) (.string m.de) (.slice la m.ps.length lc) (.slice qa m.ac.length qc) (.int .i64 n.ba) (.string n.wi) (.int .i64 n.ex) (.string n.de) (.slice la' n.ps.length lc') (.slice qa' n.ac.length qc') ( /- t -/ 30)
  have HSL := hide (SlG.still (Still.of_below hB) hlu)
  have HSM := hide (SlG.still (Still.of_below hB) hlv)
  have HSQ := hide (SlG.still (Still.of_below hB) hqu)
  have HSP := hide (SlG.still (Still.of_below hB) hqv)
  have HAL := hide (hal.still (Still.of_below hB))
  have HAM := hide (ham.still (Still.of_below hB))
  have HAQ := hide (haq.still (Still.of_below hB))
  have HAP := hide (hap.still (Still.of_below hB))
  have HBX := hide hbx
  have HHB := hide hB
  clear hlu hqu hlv hqv hal ham haq hap hB hbx
  by_cases h_ba : (m.ba == n.ba) = true
  case neg =>
    have h_ba : (m.ba == n.ba) = false := by simpa using h_ba
    have hk : sameK m n = false := by unfold sameK; rw [h_ba]; simp
    have hne : (m.ba != n.ba) = true := by simp only [bne, h_ba]; rfl
    rw [hk]
    clear hk
    go_enter Try.func7, Try.ntmps7
    go_wp2_with fail
    all_goals
      go_ret
      exact ⟨rfl, HHB.out⟩
  have hne_ba : (m.ba != n.ba) = false := by simp only [bne, h_ba]; rfl
  by_cases h_wi : (m.wi.toList == n.wi.toList) = true
  case neg =>
    have h_wi : (m.wi.toList == n.wi.toList) = false := by simpa using h_wi
    have hk : sameK m n = false := by unfold sameK; rw [h_wi]; simp
    have hne : (m.wi.toList != n.wi.toList) = true := by simp only [bne, h_wi]; rfl
    rw [hk]
    clear hk
    go_enter Try.func7, Try.ntmps7
    go_wp2_with fail
    all_goals
      go_ret
      exact ⟨rfl, HHB.out⟩
  have hne_wi : (m.wi.toList != n.wi.toList) = false := by simp only [bne, h_wi]; rfl
  by_cases h_ex : (m.ex == n.ex) = true
  case neg =>
    have h_ex : (m.ex == n.ex) = false := by simpa using h_ex
    have hk : sameK m n = false := by unfold sameK; rw [h_ex]; simp
    have hne : (m.ex != n.ex) = true := by simp only [bne, h_ex]; rfl
    rw [hk]
    clear hk
    go_enter Try.func7, Try.ntmps7
    go_wp2_with fail
    all_goals
      go_ret
      exact ⟨rfl, HHB.out⟩
  have hne_ex : (m.ex != n.ex) = false := by simp only [bne, h_ex]; rfl
  by_cases h_de : (m.de.toList == n.de.toList) = true
  case neg =>
    have h_de : (m.de.toList == n.de.toList) = false := by simpa using h_de
    have hk : sameK m n = false := by unfold sameK; rw [h_de]; simp
    have hne : (m.de.toList != n.de.toList) = true := by simp only [bne, h_de]; rfl
    rw [hk]
    clear hk
    go_enter Try.func7, Try.ntmps7
    go_wp2_with fail
    all_goals
      go_ret
      exact ⟨rfl, HHB.out⟩
  have hne_de : (m.de.toList != n.de.toList) = false := by simp only [bne, h_de]; rfl
  have HK0 : Hid (sameK m n = (sameP m.ps n.ps && sameI m.ac n.ac)) := by unfold Hid sameK; rw [h_ba, h_wi, h_ex, h_de]; simp
  rw [HK0.out]
  clear HAL HAM HAQ HAP
  go_enter Try.func7, Try.ntmps7
  go_wp2_with fail
  generalize (w.alloc (.cells #[.int .i64 m.ba, .string m.wi, .int .i64 m.ex, .string m.de, .slice la m.ps.length lc, .slice qa m.ac.length qc] ( /- t -/ 30))).alloc (.cells #[.int .i64 n.ba, .string n.wi, .int .i64 n.ex, .string n.de, .slice la' n.ps.length lc', .slice qa' n.ac.length qc'] ( /- t -/ 30)) = W at *
  refine (eqPkts W _ _ m.ps n.ps HSL.out HSM.out).mono ?_
  rintro e w1 ⟨rfl, hb1⟩
  obtain ⟨-, -, -, -, -, x1⟩ := (HBX.out.1.below hb1).cells
  obtain ⟨-, -, -, -, -, y1⟩ := (HBX.out.2.below hb1).cells
  have xl := (HBX.out.1.below hb1).lt
  have yl := (HBX.out.2.below hb1).lt
  have HQ1 := hide (HSQ.out.still (Still.of_below hb1))
  have HP1 := hide (HSP.out.still (Still.of_below hb1))
  have HB1 := hide (HHB.out.trans (hb1.mono HHB.out.size))
  clear hb1
  cases hs : sameP m.ps n.ps with
  | false =>
    have HS := hide hs
    go_wp2_with fail
    go_ret
    exact ⟨ret_bool (by rw [HS.out, Bool.false_and]), HB1.out⟩
  | true =>
    have HS := hide hs
    go_wp2_with fail
    refine (eqInts w1 _ _ m.ac n.ac HQ1.out HP1.out).mono ?_
    rintro e w2 ⟨rfl, hb2⟩
    have hb3 := HB1.out.trans (hb2.mono HB1.out.size)
    clear hb2
    go_wp2_with fail
    go_ret
    exact ⟨ret_bool (by rw [HS.out, Bool.true_and]), hb3⟩
end Go.Proofs.Ytmkjipnemapdeaa.Tk
