/- countProcess of the program, a piece. -/
import Derived.Test.YtfppglfajbmapaaRCa
import Derived.Deep.Cut
namespace Go.Proofs.Ytfppglfajbmapaa.Pc
open Go.RowKit

set_option maxHeartbeats 4000000 in
set_option maxRecDepth 100000 in
theorem cg_recv (n : Nat) (ih : CgAt n) (w : World) (k ix b u : Int) (fr to : ByteArray) (sv : Value) (kids : F) (c m : Nat) (hs : Sl w sv kids) (hc : Ctr w c m) (hn : kids.sz < n + 1) (hm : m ≤ 39) (hb0 : 0 ≤ b) (hbm : b ≤ m) (hu0 : 0 ≤ u) (hum : u ≤ m) (hsh : shapeB k fr to ix kids = true) (k3 : k = 3) :
    Calls Try.prog 46 #[.agg #[.int .i64 k, .string fr, .string to, .int .i64 ix, sv], .agg #[.int .i64 b, .int .i64 u], .pointer (some ⟨c, 0, none⟩)] w (CgPost c w m (kids.sz + 1) (vldN k fr to ix kids b u)) := by
  have hval : vldN k fr to ix kids b u = vldF kids (b) (0) := by
    unfold vldN
    rw [hsh, show insB k b = b by unfold insB; rw [if_neg (by omega)], show insU k u = 0 by unfold insU; rw [if_neg (by omega), if_pos (Or.inr k3)], if_neg (by omega)]
    simp
  rw [hval]
  have HN := hide hn
  have hu9 := And.intro hu0 hum
  clear hu9
  clear hval hn
  subst k3
  obtain ⟨a, cap, rfl, hlen, hat⟩ := hs.at
  unfold maxLen at hlen
  have h0 := hc.cell
  have h1 : w.frozen? ⟨c, 0, none⟩ = false := hc.frozen
  have h2 := hc.lt
  have q0 := pc_start (w1 := ((w.setCell ⟨c, 0, none⟩ (.int .i64 ((m : Int) + 1))).alloc (.cells #[.int .i64 3, .string fr, .string to, .int .i64 ix, .slice a kids.len cap] ( /- t -/ 48))).alloc (.cells #[.int .i64 b, .int .i64 u] ( /- t -/ 88))) (cs := #[.int .i64 3, .string fr, .string to, .int .i64 ix, .slice a kids.len cap]) (ds := #[.int .i64 b, .int .i64 u]) (t := ( /- t -/ 48)) (u := ( /- t -/ 88)) hc (Below.refl _ _)
  have hmm : ¬ (40 : Int) < (m : Int) + 1 := by omega
  have HA := hide hat
  have HS := hide (hs.only hc q0.1)
  clear hs hat q0

  go_enter Try.func46, Try.ntmps46
  go_wp2_with fail
  refine (ff_calls _ kids 3 ix fr to _ HS.out).mono ?_
  rintro e w1 ⟨rfl, hb⟩
  rw [hsh]
  obtain ⟨o1, k1, hz, ⟨t1, x1⟩, ⟨t2, x2⟩⟩ := pc_start hc (hb.mono (by simp))
  have g0 : w1.cell? ⟨w.heap.size, 0, none⟩ = some (.int .i64 3) := by simp [World.cell?, x1]
  have g3 : w1.cell? ⟨w.heap.size, 3, none⟩ = some (.int .i64 ix) := by simp [World.cell?, x1]
  have g4 : w1.cell? ⟨w.heap.size, 4, none⟩ = some (.slice a kids.len cap) := by simp [World.cell?, x1]
  have s0 : w1.cell? ⟨w.heap.size + 1, 0, none⟩ = some (.int .i64 b) := by simp [World.cell?, x2]
  have s1 : w1.cell? ⟨w.heap.size + 1, 1, none⟩ = some (.int .i64 u) := by simp [World.cell?, x2]
  have sf : ∀ o, w1.frozen? ⟨w.heap.size + 1, o, none⟩ = false := fun o => by simp [World.frozen?, x2]
  have hz0 : w.heap.size < w1.heap.size := by omega
  have hcm := k1.cell
  have hcl := k1.lt
  have HX2 := hide x2
  have HO1 := hide o1
  have HK1 := hide k1
  clear hb x1 x2 o1 k1
  go_wp2_with fail
  have HOW : Hid (Only c w (w1.setCell ⟨w.heap.size + 1, 1, none⟩ (.int .i64 (0)))) := hide (HO1.out.setCell (p := ⟨w.heap.size + 1, 1, none⟩) (Or.inr (by simp)) (.int .i64 (0)))
  have HKW : Hid (Ctr (w1.setCell ⟨w.heap.size + 1, 1, none⟩ (.int .i64 (0))) c ((m + 1 : Nat) : Int)) := hide (HK1.out.setOther (p := ⟨w.heap.size + 1, 1, none⟩) (by show c ≠ w.heap.size + 1; omega) (.int .i64 (0)))
  have hx2 : ∃ t, (w1.setCell ⟨w.heap.size + 1, 1, none⟩ (.int .i64 (0))).heap[w.heap.size + 1]? = some (.cells #[.int .i64 (b), .int .i64 (0)] t (0, 0)) := ⟨t2, by
    have h := HX2.out
    have h := heap_setCell_same (o := 1) h (.int .i64 (0))
    simpa using h⟩
  have hg4 : (w1.setCell ⟨w.heap.size + 1, 1, none⟩ (.int .i64 (0))).cell? ⟨w.heap.size, 4, none⟩ = some (.slice a kids.len cap) := by go_simp
  have hzW : w.heap.size + 1 < (w1.setCell ⟨w.heap.size + 1, 1, none⟩ (.int .i64 (0))).heap.size := by simp; omega
  clear HX2 HO1 HK1 hcm hcl g0 g3 g4 s0 s1 sf
  generalize (w1.setCell ⟨w.heap.size + 1, 1, none⟩ (.int .i64 (0))) = W at *
  obtain ⟨t3, x3⟩ := hx2
  have w0 : W.cell? ⟨w.heap.size + 1, 0, none⟩ = some (.int .i64 (b)) := by simp [World.cell?, x3]
  have w1' : W.cell? ⟨w.heap.size + 1, 1, none⟩ = some (.int .i64 (0)) := by simp [World.cell?, x3]
  clear x3
  go_loopw [55] (fun iv wr => ∃ (g : F) (j mm : Nat), j + g.len = kids.len ∧ iv = .int .i64 j ∧ g.sz ≤ kids.sz ∧ At w a j g ∧ Ctr wr c mm ∧ mm ≤ 40 ∧ mm + g.sz = m + 1 + kids.sz ∧
    vldF kids (b) (0) = vldF g (b) (0) ∧ Only c W wr) (fun iv _ => kids.len - (intOf iv).toNat)
  case atStart => exact ⟨kids, 0, m + 1, by omega, rfl, Nat.le_refl _, HA.out, HKW.out, by omega, rfl, rfl, Only.refl _ _⟩
  case round =>
    obtain ⟨g, j, mm, hj, rfl, h5, hg, kr, hmm2, hsum, hvl, oR⟩ := hrel
    have hcs : w.heap.size + 1 ≠ c := by omega
    have z0 := (Same.cell (o := 0) (oR.block _ hzW hcs)).trans w0
    have z1 := (Same.cell (o := 1) (oR.block _ hzW hcs)).trans w1'
    have zl : w.heap.size + 1 < wr.heap.size := Nat.lt_of_lt_of_le hzW oR.size
    have hcm := kr.cell
    have hcl := kr.lt
    have oA := HOW.out.trans oR
    have HSUM := hide hsum
    have HVL := hide hvl
    clear hsum hvl
    cases g with
    | nil =>
      have hge : kids.len ≤ j := by simp [F.len] at hj; omega
      have h6 : mm = m + (kids.sz + 1) := by have := HSUM.out; simp only [F.sz] at this; omega
      have h7 : decide (m + (kids.sz + 1) ≤ 40) = true := decide_eq_true (by omega)
      have HR := hide (And.intro h6 h7)
      clear hj h5 hg h6 h7
      go_wp2_with fail
      go_ret
      exact ⟨mm, by rw [HVL.out, HR.out.2]; rfl, oA, kr, fun _ => HR.out.1⟩
    | cons lab kd fr' to' ix' kids' rest =>
      have HK : Hid (j + 1 + rest.len = kids.len) := by unfold Hid; simp only [F.len] at hj; omega
      have hlt : j < kids.len := by have := HK.out; omega
      have HZ : Hid (kids'.sz < n ∧ rest.sz ≤ kids.sz) := by have := HN.out; unfold Hid; simp only [F.sz] at h5; omega
      obtain ⟨b', o, rfl, _, _, _, _, _, q0, q1, q2, q3, q4, ⟨sv', q5, hsv0⟩, _⟩ := (hg.only hc oA).head
      obtain ⟨ka, kc, rfl, -, -⟩ := hsv0.at
      have hbr : b' < wr.heap.size := World.block_lt_of_cell? _ _ q0
      have HG := hide hg
      have HS0 := hide hsv0
      have HKR := hide kr
      have HOA := hide oA
      have HOR := hide oR
      have hmm1 : m + 1 ≤ mm := by have := HSUM.out; simp only [F.sz] at this h5; omega
      clear hj h5 hg hsv0 oA oR kr
      go_wp2_with fail
      refine (ih _ kd ix' (b) (0) fr' to' _ kids' c mm HZ.out.1 (HS0.out.still (Still.of_below (alloc_below _ _))) (HKR.out.alloc _) hmm2 (by omega) (by omega) (by omega) (by omega)).mono ?_
      rintro e w3 ⟨m', rfl, o3, c3, hok⟩
      have HR3 := hide ((HOR.out.alloc (.cells #[.string lab, .int .i64 kd, .string fr', .string to', .int .i64 ix', .slice ka kids'.len kc] ( /- t -/ 92))).trans o3)
      have HA3 := hide ((HOA.out.alloc (.cells #[.string lab, .int .i64 kd, .string fr', .string to', .int .i64 ix', .slice ka kids'.len kc] ( /- t -/ 92))).trans o3)
      have HC3 := hide c3
      have HVK : Hid (vldF (.cons lab kd fr' to' ix' kids' rest) (b) (0) = (vldN kd fr' to' ix' kids' (b) (0) && vldF rest (b) (0))) := hide rfl
      have hs6 := HSUM.out
      simp only [F.sz] at hs6
      have HS6 := hide hs6
      clear hs6 o3 c3
      cases hb8 : (vldN kd fr' to' ix' kids' (b) (0) && decide (mm + (kids'.sz + 1) ≤ 40)) with
      | false =>
        have hfin : (vldF kids (b) (0) && decide (m + (kids.sz + 1) ≤ 40)) = false := by
          rw [HVL.out, HVK.out]
          have h6 := HS6.out
          cases hvv : vldN kd fr' to' ix' kids' (b) (0) with
          | false => rfl
          | true =>
            rw [hvv, Bool.true_and] at hb8
            have h9 := of_decide_eq_false hb8
            rw [decide_eq_false (by omega), Bool.and_false]
        have HFIN := hide hfin
        clear hok hb8 hfin
        go_wp2_with fail
        go_ret
        exact ⟨m', by rw [HFIN.out]; rfl, HA3.out, HC3.out, (fun h => by rw [HFIN.out] at h; cases h)⟩
      | true =>
        have hm' := hok hb8
        have h10 : m' ≤ 40 := by
          simp only [Bool.and_eq_true, decide_eq_true_eq] at hb8
          omega
        have HM := hide (And.intro hm' hb8)
        clear hok hb8 hm'
        go_wp2_with fail
        refine ⟨⟨rest, j + 1, m', by have := HK.out; omega, by go_num, HZ.out.2, HG.out.tail, HC3.out, h10, ?_, ?_, HR3.out⟩, by simp [intOf]; omega⟩
        · have h6 := HS6.out
          have h7 := HM.out.1
          omega
        · rw [HVL.out, HVK.out]
          have h8 := HM.out.2
          simp only [Bool.and_eq_true] at h8
          rw [h8.1, Bool.true_and]

end Go.Proofs.Ytfppglfajbmapaa.Pc
