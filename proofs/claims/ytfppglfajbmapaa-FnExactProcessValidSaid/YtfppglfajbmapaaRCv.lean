/- countProcess of the program, a piece. -/
import Derived.Test.YtfppglfajbmapaaRCa
import Derived.Deep.Cut
namespace Go.Proofs.Ytfppglfajbmapaa.Pc
open Go.RowKit

set_option maxHeartbeats 2000000 in
set_option maxRecDepth 100000 in
theorem cg_var (w : World) (k ix b u : Int) (fr to : ByteArray) (sv : Value) (kids : F) (c m : Nat) (hs : Sl w sv kids) (hc : Ctr w c m) (hm : m ≤ 39) (hsh : shapeB k fr to ix kids = true) (k6 : k = 6) :
    Calls Try.prog 46 #[.agg #[.int .i64 k, .string fr, .string to, .int .i64 ix, sv], .agg #[.int .i64 b, .int .i64 u], .pointer (some ⟨c, 0, none⟩)] w (CgPost c w m (kids.sz + 1) (vldN k fr to ix kids b u)) := by
  have hnil : kids = .nil := by
    unfold shapeB plainB at hsh
    simp only [Bool.and_eq_true] at hsh
    have h := hsh.2
    rw [if_neg (by omega), if_neg (by omega), if_neg (by omega), if_neg (by omega), if_neg (by omega), if_pos k6] at h
    simp only [Bool.and_eq_true, decide_eq_true_eq] at h
    exact nil_of_len h.2
  have hval : (vldN k fr to ix kids b u && decide (m + (kids.sz + 1) ≤ 40)) = (decide (u ≤ ix) && decide (ix < b)) := by
    unfold vldN
    rw [hsh, if_pos k6, hnil, decide_eq_true (show m + (F.nil.sz + 1) ≤ 40 by simp only [F.sz]; omega)]
    simp [vldF]
  have hsz : kids.sz = 0 := by rw [hnil]; rfl
  unfold CgPost
  rw [hval, hsz]
  clear hval hsz hnil
  obtain ⟨v, hv⟩ : ∃ v, v = (decide (u ≤ ix) && decide (ix < b)) := ⟨_, rfl⟩
  rw [← hv]
  have HV := hide hv
  clear hv
  subst k6
  obtain ⟨a, cap, rfl, hlen, hat⟩ := hs.at
  unfold maxLen at hlen
  have h0 := hc.cell
  have h1 : w.frozen? ⟨c, 0, none⟩ = false := hc.frozen
  have h2 := hc.lt
  have q0 := pc_start (w1 := ((w.setCell ⟨c, 0, none⟩ (.int .i64 ((m : Int) + 1))).alloc (.cells #[.int .i64 6, .string fr, .string to, .int .i64 ix, .slice a kids.len cap] ( /- t -/ 48))).alloc (.cells #[.int .i64 b, .int .i64 u] ( /- t -/ 88))) (cs := #[.int .i64 6, .string fr, .string to, .int .i64 ix, .slice a kids.len cap]) (ds := #[.int .i64 b, .int .i64 u]) (t := ( /- t -/ 48)) (u := ( /- t -/ 88)) hc (Below.refl _ _)
  have hmm : ¬ (40 : Int) < (m : Int) + 1 := by omega
  have HS := hide (hs.only hc q0.1)
  clear hs hat q0
  go_enter Try.func46, Try.ntmps46
  go_wp2_with fail
  refine (ff_calls _ kids 6 ix fr to _ HS.out).mono ?_
  rintro e w1 ⟨rfl, hb⟩
  rw [hsh]
  obtain ⟨o1, k1, hz, ⟨t1, x1⟩, ⟨t2, x2⟩⟩ := pc_start hc (hb.mono (by simp))
  have g0 : w1.cell? ⟨w.heap.size, 0, none⟩ = some (.int .i64 6) := by simp [World.cell?, x1]
  have g3 : w1.cell? ⟨w.heap.size, 3, none⟩ = some (.int .i64 ix) := by simp [World.cell?, x1]
  have s0 : w1.cell? ⟨w.heap.size + 1, 0, none⟩ = some (.int .i64 b) := by simp [World.cell?, x2]
  have s1 : w1.cell? ⟨w.heap.size + 1, 1, none⟩ = some (.int .i64 u) := by simp [World.cell?, x2]
  have hz0 : w.heap.size < w1.heap.size := by omega
  have hcm := k1.cell
  have hcl := k1.lt
  have HO1 := hide o1
  have HK1 := hide k1
  clear hb x1 x2 o1 k1
  by_cases h1 : u ≤ ix
  · have HV2 : Hid (v = decide (ix < b)) := hide (by rw [HV.out, decide_eq_true h1, Bool.true_and])
    go_wp2_with fail
    go_ret
    exact ⟨_, ret_bool HV2.out.symm, HO1.out, HK1.out, fun _ => rfl⟩
  · have hv2 : v = false := by rw [HV.out, decide_eq_false h1, Bool.false_and]
    have HV2 := hide hv2
    clear hv2
    go_wp2_with fail
    go_ret
    exact ⟨ret_bool HV2.out.symm, HO1.out, _, HK1.out, fun _ => rfl⟩

end Go.Proofs.Ytfppglfajbmapaa.Pc
