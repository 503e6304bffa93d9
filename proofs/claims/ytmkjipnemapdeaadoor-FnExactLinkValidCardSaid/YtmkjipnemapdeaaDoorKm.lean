/- What is in flight on a link: the labels sent; packets and acknowledgments that belong to it. Model and program. -/
import Derived.Test.YtmkjipnemapdeaaDoorKb
import Derived.Test.YtmkjipnemapdeaaDoorBt
namespace Go.Proofs.YtmkjipnemapdeaaDoor.Tk
open Go.RowKit

/-- A packet that belongs to the labels sent. -/
def pktB (st : ByteArray) (p : Pkt) : Bool := decide (0 ≤ p.q ∧ p.q < st.size) && (p.l.toList == (st.data.toList.drop p.q.toNat).take 1)
/-- An acknowledgment of the receiver's. -/
def ackB (ex a : Int) : Bool := decide (0 ≤ a) && decide (a ≤ ex)
/-- What is in flight belongs to the link. -/
def flightB (st : ByteArray) (ex : Int) (ps : List Pkt) (ac : List Int) : Bool := (ps.all (pktB st) && decide (ps.length ≤ 6)) && (ac.all (ackB ex) && decide (ac.length ≤ 6))

set_option maxHeartbeats 800000 in
theorem specSent (w : World) (b : Nat) (ex : Int) (wi de : ByteArray) (pv av : Value) (n n' : Nat) (hp : ∃ a c, pv = .slice a n c) (ha : ∃ a c, av = .slice a n' c) (hb : b ≤ de.size) (hwi : wi.size ≤ 1048576) (hde : de.size ≤ 1048576) :
    Calls Tryd.prog 30 #[.agg #[.int .i64 (b : Int), .string wi, .int .i64 ex, .string de, pv, av]] w fun e w' => e = .returned (.string (de.extract 0 b ++ wi)) ∧ Below w.heap.size w w' := by
  obtain ⟨pa, pc, rfl⟩ := hp
  obtain ⟨aa, ac', rfl⟩ := ha
  have hB := alloc_below w (.cells #[.int .i64 (b : Int), .string wi, .int .i64 ex, .string de, .slice pa n pc, .slice aa n' ac'] ( /- t -/ 30))
  have hsum : ∀ W : World, (Op.stringOp .add (de.extract 0 b) wi).run Tryd.prog W = .ok (.string (de.extract 0 b ++ wi)) W := fun W => run_string_add_sum W _ _ (by rw [ByteArray.size_extract]; omega)
  have hbi : (b : Int) ≤ (de.size : Int) := by omega
  go_enter Tryd.func30, Tryd.ntmps30
  go_wp2_with fail
  go_quiet (fail)
  go_wp2_with fail
  go_ret
  exact ⟨rfl, ⟨hB.os, hB.tape, hB.output, hB.size, hB.block⟩⟩

set_option maxHeartbeats 800000 in
theorem implSent (w : World) (b : Nat) (ex : Int) (wi de : ByteArray) (pv av : Value) (n n' : Nat) (hp : ∃ a c, pv = .slice a n c) (ha : ∃ a c, av = .slice a n' c) (hb : b ≤ de.size) (hwi : wi.size ≤ 1048576) (hde : de.size ≤ 1048576) :
    Calls Tryd.prog 31 #[.agg #[.int .i64 (b : Int), .string wi, .int .i64 ex, .string de, pv, av]] w fun e w' => e = .returned (.string (de.extract 0 b ++ wi)) ∧ Below w.heap.size w w' := by
  obtain ⟨pa, pc, rfl⟩ := hp
  obtain ⟨aa, ac', rfl⟩ := ha
  have hB := alloc_below w (.cells #[.int .i64 (b : Int), .string wi, .int .i64 ex, .string de, .slice pa n pc, .slice aa n' ac'] ( /- t -/ 30))
  have hsum : ∀ W : World, (Op.stringOp .add (de.extract 0 b) wi).run Tryd.prog W = .ok (.string (de.extract 0 b ++ wi)) W := fun W => run_string_add_sum W _ _ (by rw [ByteArray.size_extract]; omega)
  have hbi : (b : Int) ≤ (de.size : Int) := by omega
  go_enter Tryd.func31, Tryd.ntmps31
  go_wp2_with fail
  go_quiet (fail)
  go_wp2_with fail
  go_ret
  exact ⟨rfl, ⟨hB.os, hB.tape, hB.output, hB.size, hB.block⟩⟩


set_option maxHeartbeats 1200000 in
set_option maxRecDepth 100000 in
/-- l7Packets of the model. -/
theorem specPackets (w : World) (b : Nat) (ex : Int) (wi de : ByteArray) (ps : List Pkt) (ac : List Int) (pv av : Value) (hp : SlG elP w pv ps) (ha : SlG elI w av ac) (hb : b ≤ de.size) (hwi : wi.size ≤ 1048576) (hde : de.size ≤ 1048576) :
    Calls Tryd.prog 22 #[.agg #[.int .i64 (b : Int), .string wi, .int .i64 ex, .string de, pv, av]] w fun e w' => e = .returned (.bool (ps.all (pktB (de.extract 0 b ++ wi)) && decide (ps.length ≤ 6))) ∧ Below w.heap.size w w' := by
  obtain ⟨pa, pc, rfl, hll, hal⟩ := hp.at
  obtain ⟨aa, ac', rfl, hlq, haq⟩ := ha.at
  unfold maxLen at hll hlq
  have hB := alloc_below w (.cells #[.int .i64 (b : Int), .string wi, .int .i64 ex, .string de, .slice pa ps.length pc, .slice aa ac.length ac'] ( /- t -/ 30))
  have HBX := hide (Box6.now w (.int .i64 (b : Int)) (.string wi) (.int .i64 ex) (.string de) (.slice pa ps.length pc) (.slice aa ac.length ac') ( /- t -/ 30))
  have HAL := hide (hal.still (Still.of_below hB))
  have HAQ := hide (haq.still (Still.of_below hB))
  have HHB := hide hB
  have HS := hide (And.intro hb (And.intro hwi hde))
  clear hp ha hal haq hB hb hwi hde
  have HSS : Hid ((de.extract 0 b ++ wi).size ≤ 2097152) := by have := HS.out; unfold Hid; rw [ByteArray.size_append, ByteArray.size_extract]; omega
  obtain ⟨st, hst⟩ : ∃ st, st = (de.extract 0 b ++ wi) := ⟨_, rfl⟩
  have HST := hide hst
  rw [← hst] at HSS ⊢
  clear hst
  obtain ⟨ok, hok⟩ : ∃ ok, ok = (ps.all (pktB st) && decide (ps.length ≤ 6)) := ⟨_, rfl⟩
  have HOK := hide hok
  rw [← hok]
  clear hok
  go_enter Tryd.func22, Tryd.ntmps22
  go_wp2_with fail
  generalize w.alloc (.cells #[.int .i64 (b : Int), .string wi, .int .i64 ex, .string de, .slice pa ps.length pc, .slice aa ac.length ac'] ( /- t -/ 30)) = W at *
  refine (specSent W b ex wi de _ _ ps.length ac.length ⟨_, _, rfl⟩ ⟨_, _, rfl⟩ HS.out.1 HS.out.2.1 HS.out.2.2).mono ?_
  rw [← HST.out]
  rintro e w1 ⟨rfl, hb1⟩
  have HBX := hide (HBX.out.below hb1)
  have HAL := hide (HAL.out.still (Still.of_below hb1))
  have HHB := hide (HHB.out.trans (hb1.mono HHB.out.size))
  clear hb1 HAQ HS
  go_wp2_with fail
  go_loopw [4] (fun iv wr => ∃ (g : List Pkt) (j : Nat), j + g.length = ps.length ∧ iv = .int .i64 j ∧ AtG elP w1 pa j g ∧ g.all (pktB st) = ps.all (pktB st) ∧ Below w1.heap.size w1 wr) (fun iv _ => ps.length - (intOf iv).toNat)
  case atStart => exact ⟨ps, 0, by omega, rfl, HAL.out, rfl, Below.refl _ _⟩
  case round =>
    obtain ⟨g, j, hj, rfl, hg, hv, hbw⟩ := hrel
    have HV := hide hv
    have HBW := hide hbw
    have HBB := hide (HHB.out.trans (hbw.mono HHB.out.size))
    obtain ⟨x0, x1, x2, x3, x4, x5⟩ := (HBX.out.below hbw).cells
    have xl := (HBX.out.below hbw).lt
    clear hv hbw
    cases g with
    | nil =>
      have H5 : Hid (j = ps.length) := by unfold Hid; simpa using hj
      have hge : ps.length ≤ j := Nat.le_of_eq H5.out.symm
      have HVL : Hid (ps.all (pktB st) = true) := hide HV.out.symm
      clear hj hg
      by_cases h6 : ps.length ≤ 6
      case pos =>
        have h6' : (ps.length : Int) ≤ 6 := by omega
        have H6 := hide h6
        clear h6
        go_wp2_with fail
        go_ret
        exact ⟨ret_bool (by rw [HOK.out, HVL.out, decide_eq_true H6.out]; rfl), HBB.out⟩
      case neg =>
        have h6' : ¬ (ps.length : Int) ≤ 6 := by omega
        have h6'' : 6 < (ps.length : Int) := by omega
        have H6 := hide h6
        clear h6
        go_wp2_with fail
        go_ret
        exact ⟨ret_bool (by rw [HOK.out, decide_eq_false H6.out, Bool.and_false]), HBB.out⟩
    | cons x rest =>
      obtain ⟨q, lb⟩ := x
      have HK : Hid (j + 1 + rest.length = ps.length) := by unfold Hid; simp only [List.length_cons] at hj; omega
      have hlt : j < ps.length := by have := HK.out; omega
      obtain ⟨b1, o1, rfl, -, -, c0, c1⟩ := AtP.head (hg.still (Still.of_below HBW.out))
      have HG := hide hg.tail
      clear hj hg
      have bl1 : b1 < wr.heap.size := World.block_lt_of_cell? _ _ c0
      have hbn : Below wr.heap.size wr (wr.alloc (.cells #[.int .i64 q, .string lb] ( /- t -/ 68))) := alloc_below _ _
      have HBN := hide (HBB.out.trans (hbn.mono HBB.out.size))
      have HBM := hide (HBW.out.trans (hbn.mono HBW.out.size))
      clear hbn
      by_cases h0 : 0 ≤ q
      case neg =>
        have hF := hide (show ps.all (pktB st) = false by rw [← HV.out, List.all_cons]; unfold pktB; simp [show ¬ (0 ≤ q ∧ q < (st.size : Int)) from fun h => h0 h.1])
        have h0' : q < 0 := by omega
        have h0'' : decide (q < 0) = true := decide_eq_true h0'
        clear h0
        go_wp2_with fail
        go_quiet (fail)
        go_wp2_with fail
        go_ret
        exact ⟨ret_bool (by rw [HOK.out, hF.out, Bool.false_and]), ⟨HBN.out.os, HBN.out.tape, HBN.out.output, HBN.out.size, HBN.out.block⟩⟩
      by_cases h1 : q < (st.size : Int)
      case neg =>
        have hF := hide (show ps.all (pktB st) = false by rw [← HV.out, List.all_cons]; unfold pktB; simp [show ¬ (0 ≤ q ∧ q < (st.size : Int)) from fun h => h1 h.2])
        have h1' : (st.size : Int) ≤ q := by omega
        have h0' : ¬ q < 0 := by omega
        have h0'' : decide (q < 0) = false := decide_eq_false h0'
        have h1'' : decide ((st.size : Int) ≤ q) = true := decide_eq_true h1'
        clear h1 h0
        go_wp2_with fail
        go_quiet (fail)
        go_wp2_with fail
        go_ret
        exact ⟨ret_bool (by rw [HOK.out, hF.out, Bool.false_and]), ⟨HBN.out.os, HBN.out.tape, HBN.out.output, HBN.out.size, HBN.out.block⟩⟩
      obtain ⟨n, rfl⟩ : ∃ n : Nat, q = (n : Int) := ⟨q.toNat, by omega⟩
      have hn : n < st.size := by omega
      have he := extract_byte hn
      have hd := drop_byte hn
      generalize st[n]'hn = y at *
      have HPK : Hid (pktB st ⟨(n : Int), lb⟩ = (lb.toList == [y])) := by
        unfold Hid pktB
        rw [decide_eq_true (show (0 : Int) ≤ (n : Int) ∧ (n : Int) < (st.size : Int) by omega), Bool.true_and]
        simp only [Int.toNat_natCast]
        rw [hd]
        rfl
      have h1' : ¬ (st.size : Int) ≤ (n : Int) := by omega
      have h1n : ¬ st.size ≤ n := by omega
      have h1b : decide (st.size ≤ n) = false := decide_eq_false h1n
      have h0b : decide ((n : Int) < 0) = false := decide_eq_false (by omega)
      have h0' : ¬ (n : Int) < 0 := by omega
      clear h0 h1
      have hnl : (n : Int) < 4294967296 := by have := HSS.out; omega
      clear hd
      cases hl : (lb.toList == [y]) with
      | false =>
        have hF := hide (show ps.all (pktB st) = false by rw [← HV.out, List.all_cons, HPK.out, hl, Bool.false_and])
        have hl2 : (lb.toList != [y]) = true := by simp only [bne, hl]; rfl
        go_wp2_with fail
        go_quiet (fail)
        go_wp2_with fail
        go_ret
        exact ⟨ret_bool (by rw [HOK.out, hF.out, Bool.false_and]), ⟨HBN.out.os, HBN.out.tape, HBN.out.output, HBN.out.size, HBN.out.block⟩⟩
      | true =>
        have hR := hide (show rest.all (pktB st) = ps.all (pktB st) by rw [← HV.out, List.all_cons, HPK.out, hl, Bool.true_and])
        have hl2 : (lb.toList != [y]) = false := by simp only [bne, hl]; rfl
        go_wp2_with fail
        go_quiet (fail)
        go_wp2_with fail
        go_roundw
        case rel => exact ⟨rest, j + 1, HK.out, by go_num, HG.out, hR.out, ⟨HBM.out.os, HBM.out.tape, HBM.out.output, HBM.out.size, HBM.out.block⟩⟩
        case measure => simp [intOf]; omega

set_option maxHeartbeats 1200000 in
set_option maxRecDepth 100000 in
/-- l7Acks of the model. -/
theorem specAcks (w : World) (b : Nat) (ex : Int) (wi de : ByteArray) (ps : List Pkt) (ac : List Int) (pv av : Value) (hp : SlG elP w pv ps) (ha : SlG elI w av ac) (hb : b ≤ de.size) (hwi : wi.size ≤ 1048576) (hde : de.size ≤ 1048576) :
    Calls Tryd.prog 23 #[.agg #[.int .i64 (b : Int), .string wi, .int .i64 ex, .string de, pv, av]] w fun e w' => e = .returned (.bool (ac.all (ackB ex) && decide (ac.length ≤ 6))) ∧ Below w.heap.size w w' := by
  obtain ⟨pa, pc, rfl, hll, hal⟩ := hp.at
  obtain ⟨aa, ac', rfl, hlq, haq⟩ := ha.at
  unfold maxLen at hll hlq
  have hB := alloc_below w (.cells #[.int .i64 (b : Int), .string wi, .int .i64 ex, .string de, .slice pa ps.length pc, .slice aa ac.length ac'] ( /- t -/ 30))
  have HBX := hide (Box6.now w (.int .i64 (b : Int)) (.string wi) (.int .i64 ex) (.string de) (.slice pa ps.length pc) (.slice aa ac.length ac') ( /- t -/ 30))
  have HAL := hide (hal.still (Still.of_below hB))
  have HAQ := hide (haq.still (Still.of_below hB))
  have HHB := hide hB
  have HS := hide (And.intro hb (And.intro hwi hde))
  clear hp ha hal haq hB hb hwi hde
  clear HAL HS
  obtain ⟨ok, hok⟩ : ∃ ok, ok = (ac.all (ackB ex) && decide (ac.length ≤ 6)) := ⟨_, rfl⟩
  have HOK := hide hok
  rw [← hok]
  clear hok
  go_enter Tryd.func23, Tryd.ntmps23
  go_wp2_with fail
  generalize w.alloc (.cells #[.int .i64 (b : Int), .string wi, .int .i64 ex, .string de, .slice pa ps.length pc, .slice aa ac.length ac'] ( /- t -/ 30)) = W at *
  go_loopw [3] (fun iv wr => ∃ (g : List Int) (j : Nat), j + g.length = ac.length ∧ iv = .int .i64 j ∧ AtG elI W aa j g ∧ g.all (ackB ex) = ac.all (ackB ex) ∧ Below W.heap.size W wr) (fun iv _ => ac.length - (intOf iv).toNat)
  case atStart => exact ⟨ac, 0, by omega, rfl, HAQ.out, rfl, Below.refl _ _⟩
  case round =>
    obtain ⟨g, j, hj, rfl, hg, hv, hbw⟩ := hrel
    have HV := hide hv
    have HBW := hide hbw
    have HBB := hide (HHB.out.trans (hbw.mono HHB.out.size))
    obtain ⟨x0, x1, x2, x3, x4, x5⟩ := (HBX.out.below hbw).cells
    have xl := (HBX.out.below hbw).lt
    clear hv hbw
    cases g with
    | nil =>
      have H5 : Hid (j = ac.length) := by unfold Hid; simpa using hj
      have hge : ac.length ≤ j := Nat.le_of_eq H5.out.symm
      have HVA : Hid (ac.all (ackB ex) = true) := hide HV.out.symm
      clear hj hg
      by_cases h6 : ac.length ≤ 6
      case pos =>
        have h6' : (ac.length : Int) ≤ 6 := by omega
        have H6 := hide h6
        clear h6
        go_wp2_with fail
        go_ret
        exact ⟨ret_bool (by rw [HOK.out, HVA.out, decide_eq_true H6.out]; rfl), HBB.out⟩
      case neg =>
        have h6' : ¬ (ac.length : Int) ≤ 6 := by omega
        have h6'' : 6 < (ac.length : Int) := by omega
        have H6 := hide h6
        clear h6
        go_wp2_with fail
        go_ret
        exact ⟨ret_bool (by rw [HOK.out, decide_eq_false H6.out, Bool.and_false]), HBB.out⟩
    | cons x rest =>
      have HK : Hid (j + 1 + rest.length = ac.length) := by unfold Hid; simp only [List.length_cons] at hj; omega
      have hlt : j < ac.length := by have := HK.out; omega
      obtain ⟨b1, o1, rfl, -, c0⟩ := AtI.head (hg.still (Still.of_below HBW.out))
      have HG := hide hg.tail
      clear hj hg
      by_cases h0 : 0 ≤ x
      case neg =>
        have hF := hide (show ac.all (ackB ex) = false by rw [← HV.out, List.all_cons]; unfold ackB; simp [h0])
        have h0' : x < 0 := by omega
        clear h0
        go_wp2_with fail
        go_quiet (fail)
        go_wp2_with fail
        go_ret
        exact ⟨ret_bool (by rw [HOK.out, hF.out, Bool.false_and]), ⟨HBB.out.os, HBB.out.tape, HBB.out.output, HBB.out.size, HBB.out.block⟩⟩
      by_cases h1 : x ≤ ex
      case neg =>
        have hF := hide (show ac.all (ackB ex) = false by rw [← HV.out, List.all_cons]; unfold ackB; simp [h1])
        have h1' : ex < x := by omega
        clear h1
        go_wp2_with fail
        go_quiet (fail)
        go_wp2_with fail
        go_ret
        exact ⟨ret_bool (by rw [HOK.out, hF.out, Bool.false_and]), ⟨HBB.out.os, HBB.out.tape, HBB.out.output, HBB.out.size, HBB.out.block⟩⟩
      have hR := hide (show rest.all (ackB ex) = ac.all (ackB ex) by rw [← HV.out, List.all_cons]; unfold ackB; simp [h0, h1])
      have h1' : ¬ ex < x := by omega
      have h0' : ¬ x < 0 := by omega
      go_wp2_with fail
      go_quiet (fail)
      go_wp2_with fail
      go_roundw
      case rel => exact ⟨rest, j + 1, HK.out, by go_num, HG.out, hR.out, ⟨HBW.out.os, HBW.out.tape, HBW.out.output, HBW.out.size, HBW.out.block⟩⟩
      case measure => simp [intOf]; omega

set_option maxHeartbeats 1200000 in
set_option maxRecDepth 100000 in
/-- inFlightFits of the program. -/
theorem implFlight (w : World) (b : Nat) (ex : Int) (wi de : ByteArray) (ps : List Pkt) (ac : List Int) (pv av : Value) (hp : SlG elP w pv ps) (ha : SlG elI w av ac) (hb : b ≤ de.size) (hwi : wi.size ≤ 1048576) (hde : de.size ≤ 1048576) :
    Calls Tryd.prog 27 #[.agg #[.int .i64 (b : Int), .string wi, .int .i64 ex, .string de, pv, av]] w fun e w' => e = .returned (.bool (flightB (de.extract 0 b ++ wi) ex ps ac)) ∧ Below w.heap.size w w' := by
  obtain ⟨pa, pc, rfl, hll, hal⟩ := hp.at
  obtain ⟨aa, ac', rfl, hlq, haq⟩ := ha.at
  unfold maxLen at hll hlq
  have hB := alloc_below w (.cells #[.int .i64 (b : Int), .string wi, .int .i64 ex, .string de, .slice pa ps.length pc, .slice aa ac.length ac'] ( /- t -/ 30))
  have HBX := hide (Box6.now w (.int .i64 (b : Int)) (.string wi) (.int .i64 ex) (.string de) (.slice pa ps.length pc) (.slice aa ac.length ac') ( /- t -/ 30))
  have HAL := hide (hal.still (Still.of_below hB))
  have HAQ := hide (haq.still (Still.of_below hB))
  have HHB := hide hB
  have HS := hide (And.intro hb (And.intro hwi hde))
  clear hp ha hal haq hB hb hwi hde
  by_cases h6 : ps.length ≤ 6
  case neg =>
    have h6' : 6 < (ps.length : Int) := by omega
    have hF := hide (show flightB (de.extract 0 b ++ wi) ex ps ac = false by unfold flightB; rw [decide_eq_false h6, Bool.and_false, Bool.false_and])
    rw [hF.out]
    clear h6
    go_enter Tryd.func27, Tryd.ntmps27
    go_wp2_with fail
    go_ret
    exact ⟨rfl, HHB.out⟩
  have h6' : ¬ 6 < (ps.length : Int) := by omega
  by_cases h7 : ac.length ≤ 6
  case neg =>
    have h7' : 6 < (ac.length : Int) := by omega
    have hF := hide (show flightB (de.extract 0 b ++ wi) ex ps ac = false by unfold flightB; rw [decide_eq_false h7, Bool.and_false, Bool.and_false])
    rw [hF.out]
    clear h6 h7
    go_enter Tryd.func27, Tryd.ntmps27
    go_wp2_with fail
    go_ret
    exact ⟨rfl, HHB.out⟩
  have h7' : ¬ 6 < (ac.length : Int) := by omega
  have HFL := hide (show flightB (de.extract 0 b ++ wi) ex ps ac = (ps.all (pktB (de.extract 0 b ++ wi)) && ac.all (ackB ex)) by unfold flightB; rw [decide_eq_true h6, decide_eq_true h7, Bool.and_true, Bool.and_true])
  rw [HFL.out]
  clear h6 h7 HFL
  have HSS : Hid ((de.extract 0 b ++ wi).size ≤ 2097152) := by have := HS.out; unfold Hid; rw [ByteArray.size_append, ByteArray.size_extract]; omega
  obtain ⟨st, hst⟩ : ∃ st, st = (de.extract 0 b ++ wi) := ⟨_, rfl⟩
  have HST := hide hst
  rw [← hst] at HSS ⊢
  clear hst
  obtain ⟨ok, hok⟩ : ∃ ok, ok = (ps.all (pktB st) && ac.all (ackB ex)) := ⟨_, rfl⟩
  have HOK := hide hok
  rw [← hok]
  clear hok
  go_enter Tryd.func27, Tryd.ntmps27
  go_wp2_with fail
  generalize w.alloc (.cells #[.int .i64 (b : Int), .string wi, .int .i64 ex, .string de, .slice pa ps.length pc, .slice aa ac.length ac'] ( /- t -/ 30)) = W at *
  refine (implSent W b ex wi de _ _ ps.length ac.length ⟨_, _, rfl⟩ ⟨_, _, rfl⟩ HS.out.1 HS.out.2.1 HS.out.2.2).mono ?_
  rw [← HST.out]
  rintro e w1 ⟨rfl, hb1⟩
  have HBX := hide (HBX.out.below hb1)
  have HAL := hide (HAL.out.still (Still.of_below hb1))
  have HAQ := hide (HAQ.out.still (Still.of_below hb1))
  have HHB := hide (HHB.out.trans (hb1.mono HHB.out.size))
  obtain ⟨x0, x1, x2, x3, x4, x5⟩ := HBX.out.cells
  have xl := HBX.out.lt
  clear hb1 HS
  go_wp2_with fail
  clear x0 x1 x2 x3 x4 x5 xl
  go_loopw [23] (fun iv wr => ∃ (g : List Pkt) (j : Nat), j + g.length = ps.length ∧ iv = .int .i64 j ∧ AtG elP w1 pa j g ∧ g.all (pktB st) = ps.all (pktB st) ∧ Below w1.heap.size w1 wr) (fun iv _ => ps.length - (intOf iv).toNat)
  case atStart => exact ⟨ps, 0, by omega, rfl, HAL.out, rfl, Below.refl _ _⟩
  case round =>
    obtain ⟨g, j, hj, rfl, hg, hv, hbw⟩ := hrel
    have HV := hide hv
    have HBW := hide hbw
    have HBB := hide (HHB.out.trans (hbw.mono HHB.out.size))
    obtain ⟨x0, x1, x2, x3, x4, x5⟩ := (HBX.out.below hbw).cells
    have xl := (HBX.out.below hbw).lt
    clear hv hbw
    cases g with
    | nil =>
      have H5 : Hid (j = ps.length) := by unfold Hid; simpa using hj
      have hge : ps.length ≤ j := Nat.le_of_eq H5.out.symm
      have HVL : Hid (ps.all (pktB st) = true) := hide HV.out.symm
      clear hj hg
      have HVL := HVL
      go_wp2_with fail
      clear x0 x1 x2 x3 x4 x5 xl hge H5
      go_loopw [53] (fun iv wr => ∃ (g : List Int) (j : Nat), j + g.length = ac.length ∧ iv = .int .i64 j ∧ AtG elI w1 aa j g ∧ g.all (ackB ex) = ac.all (ackB ex) ∧ Below w1.heap.size w1 wr) (fun iv _ => ac.length - (intOf iv).toNat)
      case atStart => exact ⟨ac, 0, by omega, rfl, HAQ.out, rfl, HBW.out⟩
      case round =>
        clear HBW HBB HV
        obtain ⟨g, j, hj, rfl, hg, hv, hbw⟩ := hrel
        have HV := hide hv
        have HBW := hide hbw
        have HBB := hide (HHB.out.trans (hbw.mono HHB.out.size))
        obtain ⟨x0, x1, x2, x3, x4, x5⟩ := (HBX.out.below hbw).cells
        have xl := (HBX.out.below hbw).lt
        clear hv hbw
        cases g with
        | nil =>
          have H5 : Hid (j = ac.length) := by unfold Hid; simpa using hj
          have hge : ac.length ≤ j := Nat.le_of_eq H5.out.symm
          have HVA : Hid (ac.all (ackB ex) = true) := hide HV.out.symm
          clear hj hg
          go_wp2_with fail
          go_ret
          exact ⟨ret_bool (by rw [HOK.out, HVL.out, HVA.out]; rfl), HBB.out⟩
        | cons x rest =>
          have HK : Hid (j + 1 + rest.length = ac.length) := by unfold Hid; simp only [List.length_cons] at hj; omega
          have hlt : j < ac.length := by have := HK.out; omega
          obtain ⟨b1, o1, rfl, -, c0⟩ := AtI.head (hg.still (Still.of_below HBW.out))
          have HG := hide hg.tail
          clear hj hg
          by_cases h0 : 0 ≤ x
          case neg =>
            have hF := hide (show ac.all (ackB ex) = false by rw [← HV.out, List.all_cons]; unfold ackB; simp [h0])
            have h0' : x < 0 := by omega
            clear h0
            go_wp2_with fail
            go_ret
            exact ⟨ret_bool (by rw [HOK.out, hF.out, Bool.and_false]), HBB.out⟩
          by_cases h1 : x ≤ ex
          case neg =>
            have hF := hide (show ac.all (ackB ex) = false by rw [← HV.out, List.all_cons]; unfold ackB; simp [h1])
            have h1' : ex < x := by omega
            clear h1
            go_wp2_with fail
            go_ret
            exact ⟨ret_bool (by rw [HOK.out, hF.out, Bool.and_false]), HBB.out⟩
          have hR := hide (show rest.all (ackB ex) = ac.all (ackB ex) by rw [← HV.out, List.all_cons]; unfold ackB; simp [h0, h1])
          have h1' : ¬ ex < x := by omega
          have h0' : ¬ x < 0 := by omega
          go_wp2_with fail
          go_roundw
          case rel => exact ⟨rest, j + 1, HK.out, by go_num, HG.out, hR.out, HBW.out⟩
          case measure => simp [intOf]; omega

    | cons x rest =>
      obtain ⟨q, lb⟩ := x
      have HK : Hid (j + 1 + rest.length = ps.length) := by unfold Hid; simp only [List.length_cons] at hj; omega
      have hlt : j < ps.length := by have := HK.out; omega
      obtain ⟨b1, o1, rfl, -, -, c0, c1⟩ := AtP.head (hg.still (Still.of_below HBW.out))
      have HG := hide hg.tail
      clear hj hg
      have bl1 : b1 < wr.heap.size := World.block_lt_of_cell? _ _ c0
      have hbn : Below wr.heap.size wr (wr.alloc (.cells #[.int .i64 q, .string lb] ( /- t -/ 68))) := alloc_below _ _
      have HBN := hide (HBB.out.trans (hbn.mono HBB.out.size))
      have HBM := hide (HBW.out.trans (hbn.mono HBW.out.size))
      clear hbn
      by_cases h0 : 0 ≤ q
      case neg =>
        have hF := hide (show ps.all (pktB st) = false by rw [← HV.out, List.all_cons]; unfold pktB; simp [show ¬ (0 ≤ q ∧ q < (st.size : Int)) from fun h => h0 h.1])
        have h0' : q < 0 := by omega
        have h0'' : decide (q < 0) = true := decide_eq_true h0'
        clear h0
        go_wp2_with fail
        go_quiet (fail)
        go_wp2_with fail
        go_ret
        exact ⟨ret_bool (by rw [HOK.out, hF.out, Bool.false_and]), ⟨HBN.out.os, HBN.out.tape, HBN.out.output, HBN.out.size, HBN.out.block⟩⟩
      by_cases h1 : q < (st.size : Int)
      case neg =>
        have hF := hide (show ps.all (pktB st) = false by rw [← HV.out, List.all_cons]; unfold pktB; simp [show ¬ (0 ≤ q ∧ q < (st.size : Int)) from fun h => h1 h.2])
        have h1' : (st.size : Int) ≤ q := by omega
        have h0' : ¬ q < 0 := by omega
        have h0'' : decide (q < 0) = false := decide_eq_false h0'
        have h1'' : decide ((st.size : Int) ≤ q) = true := decide_eq_true h1'
        clear h1 h0
        go_wp2_with fail
        go_quiet (fail)
        go_wp2_with fail
        go_ret
        exact ⟨ret_bool (by rw [HOK.out, hF.out, Bool.false_and]), ⟨HBN.out.os, HBN.out.tape, HBN.out.output, HBN.out.size, HBN.out.block⟩⟩
      obtain ⟨n, rfl⟩ : ∃ n : Nat, q = (n : Int) := ⟨q.toNat, by omega⟩
      have hn : n < st.size := by omega
      have he := extract_byte hn
      have hd := drop_byte hn
      generalize st[n]'hn = y at *
      have HPK : Hid (pktB st ⟨(n : Int), lb⟩ = (lb.toList == [y])) := by
        unfold Hid pktB
        rw [decide_eq_true (show (0 : Int) ≤ (n : Int) ∧ (n : Int) < (st.size : Int) by omega), Bool.true_and]
        simp only [Int.toNat_natCast]
        rw [hd]
        rfl
      have h1' : ¬ (st.size : Int) ≤ (n : Int) := by omega
      have h1n : ¬ st.size ≤ n := by omega
      have h1b : decide (st.size ≤ n) = false := decide_eq_false h1n
      have h0b : decide ((n : Int) < 0) = false := decide_eq_false (by omega)
      have h0' : ¬ (n : Int) < 0 := by omega
      clear h0 h1
      have hnl : (n : Int) < 4294967296 := by have := HSS.out; omega
      clear hd
      cases hl : (lb.toList == [y]) with
      | false =>
        have hF := hide (show ps.all (pktB st) = false by rw [← HV.out, List.all_cons, HPK.out, hl, Bool.false_and])
        have hl2 : (lb.toList != [y]) = true := by simp only [bne, hl]; rfl
        go_wp2_with fail
        go_quiet (fail)
        go_wp2_with fail
        go_ret
        exact ⟨ret_bool (by rw [HOK.out, hF.out, Bool.false_and]), ⟨HBN.out.os, HBN.out.tape, HBN.out.output, HBN.out.size, HBN.out.block⟩⟩
      | true =>
        have hR := hide (show rest.all (pktB st) = ps.all (pktB st) by rw [← HV.out, List.all_cons, HPK.out, hl, Bool.true_and])
        have hl2 : (lb.toList != [y]) = false := by simp only [bne, hl]; rfl
        go_wp2_with fail
        go_quiet (fail)
        go_wp2_with fail
        go_roundw
        case rel => exact ⟨rest, j + 1, HK.out, by go_num, HG.out, hR.out, ⟨HBM.out.os, HBM.out.tape, HBM.out.output, HBM.out.size, HBM.out.block⟩⟩
        case measure => simp [intOf]; omega
end Go.Proofs.YtmkjipnemapdeaaDoor.Tk
