/- writeGlobal of the program: messages; FormatGlobal of the program. -/
import Derived.Test.YtfppglfajbmapaaDoorWt
namespace Go.Proofs.YtfppglfajbmapaaDoor
open Go.RowKit

set_option maxHeartbeats 800000 in
set_option maxRecDepth 100000 in
theorem wr_msg (n : Nat) (ih : WrAt n) (w0 w : World) (B bb : Nat) (bs : List Value) (ix b d : Int) (fr to : ByteArray) (sv : Value) (kids : F) (hn : kids.sz < n + 1) (hbig : kids.sz ≤ 400) (hs : Sl w0 sv kids) (h0 : w0.heap.size ≤ B) (hw : Below w0.heap.size w0 w) (hB : B ≤ w.heap.size)
    (hb : 0 ≤ b) (hbd : b + d ≤ 40) (hsh : shapeB 2 fr to ix kids = true) (hv : vldF kids b 0 (d - 1) = true) (hbu : Lib.IsBuilderF ( /- t -/ 83) ( /- t -/ 5) B bb bs w) (hlen : bs.length + (txN 2 fr to ix kids).size ≤ 1048576) :
    Calls Tryd.prog 50 #[.pointer (some ⟨bb, 0, none⟩), .agg #[.int .i64 2, .string fr, .string to, .int .i64 ix, sv]] w
      fun e w' => e = .returned (.tuple #[]) ∧ Lib.IsBuilderF ( /- t -/ 83) ( /- t -/ 5) B bb (bs ++ Lib.strCells (txN 2 fr to ix kids)) w' ∧ Kp B bb w w' := by
  have htx : txN 2 fr to ix kids = fr ++ to ++ txF kids .first ++ bclose := rfl
  obtain ⟨e1, e2, e3, rfl, e5⟩ := shape_msg hsh
  have hfr : fr.size = 1 := role_size e1
  have hto : to.size = 1 := role_size e2
  have hft : (fr ++ to).size = 2 := by rw [ByteArray.size_append]; omega
  have hl2 : bs.length + 3 + (txF kids .first).size ≤ 1048576 := by
    rw [htx] at hlen
    simp only [ByteArray.size_append] at hlen
    have e1 : bclose.size = 1 := rfl
    omega
  obtain ⟨a, cap, rfl, hlk, hat⟩ := hs.at
  unfold maxLen at hlk
  have hs1 := hs.still (Still.of_below hw)
  have HS := hide hs1
  have HA := hide hat
  have HV := hide hv
  have HN := hide hn
  have HG := hide hbig
  have HL := hide hl2
  have HX := hide htx
  have HBU := hide hbu
  have HW := hide hw
  have HE := hide (And.intro e1 (And.intro e2 (And.intro e3 e5)))
  have hbw : bb < w.heap.size := by
    rcases hbu with h | h
    · exact h.lt
    · exact h.lt
  clear hs hsh hat hn hbig hs1 hv hlen hl2 hbu hw htx e1 e2 e3 e5
  go_enter Tryd.func50, Tryd.ntmps50
  go_wp2_with fail
  refine (node_msg _ 0 fr to _ kids (HS.out.still (Still.of_below (alloc_below _ _))) HE.out.1 HE.out.2.1 HE.out.2.2.1 rfl HE.out.2.2.2).mono ?_
  rintro e w1 ⟨rfl, hb⟩
  have hb1 : Below w.heap.size w w1 := (alloc_below w _).trans (hb.mono (by simp))
  have hb2 := hb1.alloc hb1.size (.cells #[.string fr, .string to, .slice a kids.len cap] ( /- t -/ 155))
  have hcl := alloc_last w1 #[.string fr, .string to, .slice a kids.len cap] ( /- t -/ 155)
  clear hb
  have n1 := taMsgEnd; have n2 := taMsgMsg
  go_wp2_with fail
  refine (write_string B bb bs (fr ++ to) _ (bu_below HBU.out hb2) (by have := HL.out; omega) (Nat.le_trans hB hb2.size)).mono ?_
  rintro e w2 ⟨rfl, hat, hb3, ho3⟩
  have kp := ((Kp.refl B bb w).of_below hB hb2).trans ⟨hb3, ho3⟩
  have hc2 := (Kp.mk hb3 ho3).cells hcl (by have := hb1.size; omega) (by decide)
  have hcc2 := cell_of_heap (o := 2) hc2
  simp only [List.getElem?_toArray, List.getElem?_cons_zero, List.getElem?_cons_succ] at hcc2
  have hlt2 : w1.heap.size < w2.heap.size := World.block_lt_of_cell? _ _ hcc2
  have HAT := hide hat
  have HKP := hide kp
  clear hc2 hcl hb3 ho3 hat kp hb2
  go_wp2_with fail
  go_loopw [6, 31] (fun pv iv wr => ∃ (g : F) (k : Nat) (bs' : List Value), k + g.len = kids.len ∧ pv = .string (sepB k) ∧ iv = .int .i64 k ∧ g.sz ≤ kids.sz ∧ At w0 a k g ∧ vldF g b 0 (d - 1) = true ∧
    bs' ++ Lib.strCells (txF g (md k)) = bs ++ Lib.strCells (fr ++ to ++ txF kids .first) ∧ Lib.IsBuilderF ( /- t -/ 83) ( /- t -/ 5) B bb bs' wr ∧ Kp B bb w2 wr) (fun _ iv _ => kids.len - (intOf iv).toNat)
  case atStart => exact ⟨kids, 0, bs ++ Lib.strCells (fr ++ to), by omega, rfl, rfl, Nat.le_refl _, HA.out, HV.out, by rw [strCells_append (fr ++ to), List.append_assoc]; rfl, Or.inr HAT.out, Kp.refl _ _ _⟩
  case round =>
    obtain ⟨g, k, bs', hk, rfl, rfl, h5, hg, hv, htx, hbu, kpr⟩ := hrel
    have hlen' := congrArg List.length htx
    simp only [List.length_append, Lib.strCells_length, ByteArray.size_append, hfr, hto] at hlen'
    have HLB := hide hlen'
    have HTX := hide htx
    have HBR := hide hbu
    have HKR := hide kpr
    have HW2 := hide hv
    have hBr : B ≤ wr.heap.size := Nat.le_trans hB (Nat.le_trans HKP.out.below.size kpr.below.size)
    cases g with
    | nil =>
      have H5 : Hid (k = kids.len) := by unfold Hid; simpa [F.len] using hk
      have hge : kids.len ≤ k := Nat.le_of_eq H5.out.symm
      clear hk htx hv hbu kpr hlen'
      go_wp2_with fail
      refine (write_byte B bb bs' 125 _ HBR.out (by have h1 := HLB.out; have h2 := HL.out; omega) hBr).mono ?_
      rintro e w3 ⟨rfl, hat3, hb3, ho3⟩
      go_wp2_with fail
      go_end0
      refine ⟨rfl, ?_, (HKP.out.trans HKR.out).trans ⟨hb3, ho3⟩⟩
      rw [HX.out, strCells_append, ← List.append_assoc, ← HTX.out]
      have e9 : Lib.strCells (txF F.nil (md k)) = [] := rfl
      rw [e9, List.append_nil]
      exact Or.inr hat3
    | cons lab kd fr' to' ix' kids' rest =>
      rw [txF_md] at htx
      have hlt : k < kids.len := by simp only [F.len] at hk; omega
      have hst : Still w0 wr := Still.of_below (HW.out.trans ((HKP.out.below.trans kpr.below).mono h0))
      obtain ⟨b', o, rfl, _, _, _, _, _, q0, q1, q2, q3, q4, ⟨sv', q5, hsv⟩, _⟩ := hg.head
      obtain ⟨ka, kc, rfl, -, -⟩ := hsv.at
      have q0 := hst _ _ q0; have q1 := hst _ _ q1; have q2 := hst _ _ q2; have q3 := hst _ _ q3; have q4 := hst _ _ q4; have q5 := hst _ _ q5
      have HK := hide hk
      have HX2 := hide htx
      have HSV := hide hsv
      simp only [vldF, Bool.and_eq_true] at hv
      have HVN := hide hv
      have HG2 := hide hg
      have H5 := hide h5
      have hz : bs'.length + 1 + lab.size + (txN kd fr' to' ix' kids').size ≤ 1048576 := by
        have h1 := HLB.out
        have h2 := HL.out
        rw [txF_md] at h1
        simp only [ByteArray.size_append, sepB_size] at h1
        omega
      have hsl : (sepB k).size = 1 := sepB_size k
      have hbr := World.block_lt_of_cell? _ _ q0
      have HZ := hide hz
      have hls : lab.size ≤ 1048576 := by omega
      clear hk h5 hg hsv htx hv hbu kpr hlen' HW2 HTX hz hst
      have hb4 := alloc_below wr (.cells #[.string lab, .int .i64 kd, .string fr', .string to', .int .i64 ix', .slice ka kids'.len kc] ( /- t -/ 76))
      have hcl := alloc_last wr #[.string lab, .int .i64 kd, .string fr', .string to', .int .i64 ix', .slice ka kids'.len kc] ( /- t -/ 76)
      have hszr := Nat.le_trans (Nat.le_trans (Nat.le_of_lt hbw) (HKP.out.below.mono (Nat.le_refl _)).size) HKR.out.below.size
      have hbbr : bb < wr.heap.size := Nat.lt_of_lt_of_le hbw (Nat.le_trans HKP.out.below.size HKR.out.below.size)
      go_wp2_with fail
      refine (write_string B bb bs' (sepB k ++ lab) _ (bu_below HBR.out hb4) (by have := HZ.out; rw [ByteArray.size_append, hsl]; omega) (Nat.le_trans hBr hb4.size)).mono ?_
      rintro e w4 ⟨rfl, hat4, hb5, ho5⟩
      have kp4 := (HKR.out.alloc hBr (.cells #[.string lab, .int .i64 kd, .string fr', .string to', .int .i64 ix', .slice ka kids'.len kc] ( /- t -/ 76))).trans ⟨hb5, ho5⟩
      have hd2 := (Kp.mk hb5 ho5).cells hcl (by omega) (by decide)
      have hd_1 := cell_of_heap (o := 1) hd2
      have hd_2 := cell_of_heap (o := 2) hd2
      have hd_3 := cell_of_heap (o := 3) hd2
      have hd_4 := cell_of_heap (o := 4) hd2
      have hd_5 := cell_of_heap (o := 5) hd2
      simp only [List.getElem?_toArray, List.getElem?_cons_zero, List.getElem?_cons_succ] at hd_1 hd_2 hd_3 hd_4 hd_5
      have hlt4 : wr.heap.size < w4.heap.size := World.block_lt_of_cell? _ _ hd_1
      have HAT4 := hide hat4
      have HKP4 := hide kp4
      clear hd2 hcl hb5 ho5 hat4 kp4 hb4 q0 q1 q2 q3 q4 q5
      go_wp2_with fail
      refine (ih w0 w4 B bb (bs' ++ Lib.strCells (sepB k ++ lab)) kd ix' b 0 (d - 1) fr' to' _ kids' (by have h1 := H5.out; have h2 := HN.out; simp only [F.sz] at h1; omega) (by have h1 := H5.out; have h2 := HG.out; simp only [F.sz] at h1; omega) HSV.out h0
        (HW.out.trans ((HKP.out.trans HKP4.out).below.mono h0)) (Nat.le_trans hB (HKP.out.trans HKP4.out).below.size) (by omega) (by omega) (by omega) ?_ (Or.inr HAT4.out) (by have := HZ.out; rw [List.length_append, Lib.strCells_length, ByteArray.size_append, hsl]; omega)).mono ?_
      · exact HVN.out.1
      rintro e w5 ⟨rfl, hat5, kp5⟩
      go_wp2_with fail
      refine ⟨⟨rest, k + 1, bs' ++ Lib.strCells (sepB k ++ lab) ++ Lib.strCells (txN kd fr' to' ix' kids'), ?_, ?_, by go_num, ?_, HG2.out.tail, HVN.out.2, ?_, hat5, HKP4.out.trans kp5⟩, by simp [intOf]; omega⟩
      · have := HK.out
        simp only [F.len] at this
        omega
      · unfold sepB
        rw [if_neg (by omega)]
        rfl
      · have := H5.out
        simp only [F.sz] at this
        omega
      · rw [← HX2.out]
        simp only [strCells_append, List.append_assoc]

theorem wr_all : ∀ n, WrAt n := by
  intro n
  induction n with
  | zero => intro w0 w B bb bs k ix b u d fr to sv kids hn; omega
  | succ n ih =>
    intro w0 w B bb bs k ix b u d fr to sv kids hn hbig hs h0 hw hB hb hu hbd hv hbu hlen
    have hv2 := hv
    unfold vldN at hv2
    obtain ⟨hd, hsh, hk⟩ := node_kinds hu hv2
    rcases hk with rfl | ⟨rfl, hi, hi1, -⟩ | ⟨rfl, h3⟩ | ⟨rfl, h2⟩
    · exact wr_end w0 w B bb bs ix fr to sv kids hs hw hB hsh hbu hlen
    · exact wr_var w0 w B bb bs ix fr to sv kids hs hw hB hi (by omega) hsh hbu hlen
    · exact wr_rec n ih w0 w B bb bs ix b u d fr to sv kids hn hbig hs h0 hw hB hb hu hbd hsh h3 hbu hlen
    · exact wr_msg n ih w0 w B bb bs ix b d fr to sv kids hn hbig hs h0 hw hB hb hbd hsh h2 hbu hlen
end Go.Proofs.YtfppglfajbmapaaDoor
