/- countGlobal of the program: recursions and messages; GlobalNodes and GlobalValid. -/
import Derived.Test.YtfppglfajbmapaaDoorCg
namespace Go.Proofs.YtfppglfajbmapaaDoor
open Go.RowKit

set_option maxHeartbeats 800000 in
set_option maxRecDepth 100000 in
theorem cg_rec (n : Nat) (ih : CgAt n) (w : World) (ix depth recs ung : Int) (fr to : ByteArray) (sv : Value) (kids : F) (c m : Nat) (hn : kids.sz < n + 1) (hs : Sl w sv kids) (hc : Ctr w c m) (hm : m ≤ 399) (hd0 : 1 ≤ depth) (hd : depth ≤ 40)
    (hr : 0 ≤ recs) (hr2 : recs + 1 ≤ depth) (hu : 0 ≤ ung) (hu2 : ung + 1 ≤ depth) (hsh : shapeB 3 fr to ix kids = true) :
    Calls Tryd.prog 144 #[.agg #[.int .i64 3, .string fr, .string to, .int .i64 ix, sv], .agg #[.int .i64 depth, .int .i64 recs, .int .i64 ung], .pointer (some ⟨c, 0, none⟩)] w
    (CgPost c w m (kids.sz + 1) (vldN 3 fr to ix kids recs ung (41 - depth))) := by
  obtain ⟨e1, e2, rfl, lab, k', fr', to', ix', kids', rfl, e3⟩ := shape_rec hsh
  obtain ⟨a, cap, rfl, -, hat⟩ := hs.at
  obtain ⟨b', o', rfl, -⟩ := hat.head
  have h0 := hc.cell
  have h1 : w.frozen? ⟨c, 0, none⟩ = false := hc.frozen
  have h2 := hc.lt
  have HA := hide hat
  have HSH := hide hsh
  have HN := hide hn
  have E1 := hide e1
  have E2 := hide e2
  have E3 := hide e3
  clear hs hsh hat hn e1 e2 e3
  change Calls Tryd.prog 144 #[.agg #[.int .i64 3, .string fr, .string to, .int .i64 0, .slice (some ⟨b', o', none⟩) 1 cap], .agg #[.int .i64 depth, .int .i64 recs, .int .i64 ung], .pointer (some ⟨c, 0, none⟩)] w _
  go_enter Tryd.func144, Tryd.ntmps144
  go_wp2_with fail
  have q0 := cg_start (v0 := .int .i64 3) (v1 := .string fr) (v2 := .string to) (v3 := .int .i64 0) (v4 := .slice (some ⟨b', o', none⟩) 1 cap) (t := ( /- t -/ 25)) (x0 := .int .i64 depth) (x1 := .int .i64 recs) (x2 := .int .i64 ung) (y0 := .int .i64 (depth + 1)) (y1 := .int .i64 recs) (y2 := .int .i64 0) (u := ( /- t -/ 228)) hc (Below.refl _ _)
  have hat1 := HA.out.only hc q0.1
  obtain ⟨b2, o2, e, -, -, -, -, -, d0, d1, d2, d3, d4, ⟨sv', d5, hsv⟩, -⟩ := hat1.head
  simp only [Option.some.injEq, Addr.mk.injEq, and_true] at e
  obtain ⟨rfl, rfl⟩ := e
  simp only [Nat.zero_mul, Nat.add_zero] at d0 d1 d2 d3 d4 d5
  refine (node_rec _ 0 fr to b' o' cap lab k' ix' fr' to' sv' E1.out E2.out rfl E3.out d0 d1 d2 d3 d4 d5).mono ?_
  rintro e w1 ⟨rfl, hb⟩
  have HSV := hide (hsv.still (Still.of_below hb))
  obtain ⟨ka, kc, rfl, -, -⟩ := hsv.at
  have HD5 : Hid (w.cell? ⟨b', o' + 5, none⟩ = some (.slice ka kids'.len kc)) := by
    have hb3 : b' < w.heap.size := by
      obtain ⟨b3, o3, e4, -, -, -, -, -, g0, -⟩ := HA.out.head
      simp only [Option.some.injEq, Addr.mk.injEq, and_true] at e4
      obtain ⟨rfl, rfl⟩ := e4
      exact World.block_lt_of_cell? _ _ g0
    have hbc : b' ≠ c := by
      rintro rfl
      have g0 := d0
      rw [show (⟨b', o', none⟩ : Addr) = ⟨b', o', none⟩ from rfl] at g0
      obtain ⟨t', ht'⟩ := q0.2.1
      simp only [World.cell?, ht'] at g0
      cases o' with
      | zero => simp at g0
      | succ o => simp at g0
    unfold Hid
    rw [← Same.cell (q0.1.block b' hb3 hbc)]
    exact d5
  clear q0 hat1 d0 d1 d2 d3 d4 d5 hsv
  obtain ⟨p1, p2, hz, -, -, -, -, -, x0, x1, x2, y0, y1, y2, T, hT⟩ := cg_start hc (hb.mono (by simp))
  have hz1 : w.heap.size + 1 < w1.heap.size := by omega
  have hz2 : w.heap.size + 1 + 1 < w1.heap.size := by omega
  have f0 : ∀ o, w1.frozen? ⟨w.heap.size + 1 + 1, o, none⟩ = false := fun o => by simp [World.frozen?, hT]
  have HT := hide hT
  clear hb hT
  have n1 := taRecEnd; have n2 := taRecMsg; have n3 := taRecRec
  go_wp2_with fail
  go_region
  go_wp2_with fail
  have hcz : c ≠ w.heap.size + 1 + 1 := by omega
  have o2 := (((p1.setCell (p := ⟨w.heap.size + 1 + 1, 1, none⟩) (Or.inr (by simp; omega)) (.int .i64 (recs + 1))).setCell (p := ⟨w.heap.size + 1 + 1, 2, none⟩) (Or.inr (by simp; omega)) (.int .i64 (ung + 1))).alloc (.cells #[.int .i64 k', .string fr', .string to', .int .i64 ix', .slice ka kids'.len kc] ( /- t -/ 159))).drew
  have k2 := (((p2.setOther (p := ⟨w.heap.size + 1 + 1, 1, none⟩) hcz (.int .i64 (recs + 1))).setOther (p := ⟨w.heap.size + 1 + 1, 2, none⟩) hcz (.int .i64 (ung + 1))).alloc (.cells #[.int .i64 k', .string fr', .string to', .int .i64 ix', .slice ka kids'.len kc] ( /- t -/ 159))).drew
  obtain ⟨b3, o3, e4, -, -, -, -, -, -, -, -, -, -, ⟨sv3, d5, hsv3⟩, -⟩ := HA.out.head
  have hsv4 : Sl w (.slice ka kids'.len kc) kids' := by
    simp only [Option.some.injEq, Addr.mk.injEq, and_true] at e4
    obtain ⟨rfl, rfl⟩ := e4
    have := HD5.out
    simp only [Nat.zero_mul, Nat.add_zero] at d5
    rw [d5] at this
    simp only [Option.some.injEq] at this
    rw [← this]
    exact hsv3
  have hsv5 := hsv4.only hc o2
  clear e4 d5 hsv3 hsv4
  have hz3 : kids'.sz < n := by have := HN.out; simp only [F.sz] at this; omega
  refine (ih _ k' ix' (depth + 1) (recs + 1) (ung + 1) fr' to' _ kids' c (m + 1) hz3 hsv5 k2 (by omega) (by omega) (by omega) (by omega) (by omega) (by omega) (by omega)).mono ?_
  rintro e w3 ⟨m', rfl, o3, c3, hok⟩
  have o4 := o2.trans o3
  clear o2 k2 o3 hsv5
  go_wp2_with fail
  go_ret
  have hv : vldN 3 fr to 0 (.cons lab k' fr' to' ix' kids' .nil) recs ung (41 - depth) = vldN k' fr' to' ix' kids' (recs + 1) (ung + 1) (41 - (depth + 1)) := by
    rw [show 41 - (depth + 1) = 41 - depth - 1 by omega]
    unfold vldN
    rw [nodeB_shape _ _ _ _ _ _ _ _ hu, HSH.out, decide_eq_true (by omega)]
    simp [vldF]
  have hs3 : m + 1 + (kids'.sz + 1) = m + ((F.cons lab k' fr' to' ix' kids' .nil).sz + 1) := by simp only [F.sz]; omega
  rw [hs3] at hok
  rw [hs3, ← hv]
  exact ⟨m', rfl, o4, c3, by rw [hv]; exact hok⟩

set_option maxHeartbeats 800000 in
set_option maxRecDepth 100000 in
theorem cg_msg (n : Nat) (ih : CgAt n) (w : World) (ix depth recs ung : Int) (fr to : ByteArray) (sv : Value) (kids : F) (c m : Nat) (hn : kids.sz < n + 1) (hs : Sl w sv kids) (hc : Ctr w c m) (hm : m ≤ 399) (hd0 : 1 ≤ depth) (hd : depth ≤ 40)
    (hr : 0 ≤ recs) (hr2 : recs + 1 ≤ depth) (hu : 0 ≤ ung) (hsh : shapeB 2 fr to ix kids = true) :
    Calls Tryd.prog 144 #[.agg #[.int .i64 2, .string fr, .string to, .int .i64 ix, sv], .agg #[.int .i64 depth, .int .i64 recs, .int .i64 ung], .pointer (some ⟨c, 0, none⟩)] w
    (CgPost c w m (kids.sz + 1) (vldN 2 fr to ix kids recs ung (41 - depth))) := by
  obtain ⟨e1, e2, e3, rfl, e5⟩ := shape_msg hsh
  obtain ⟨a, cap, rfl, hlen, hat⟩ := hs.at
  unfold maxLen at hlen
  have h0 := hc.cell
  have h1 : w.frozen? ⟨c, 0, none⟩ = false := hc.frozen
  have h2 := hc.lt
  have HA := hide hat
  have HS := hide hs
  have HSH := hide hsh
  have HN := hide hn
  have E1 := hide e1
  have E2 := hide e2
  have E3 := hide e3
  have E5 := hide e5
  clear hs hsh hat hn e1 e2 e3 e5
  go_enter Tryd.func144, Tryd.ntmps144
  go_wp2_with fail
  have q0 := cg_start (v0 := .int .i64 2) (v1 := .string fr) (v2 := .string to) (v3 := .int .i64 0) (v4 := .slice a kids.len cap) (t := ( /- t -/ 25)) (x0 := .int .i64 depth) (x1 := .int .i64 recs) (x2 := .int .i64 ung) (y0 := .int .i64 (depth + 1)) (y1 := .int .i64 recs) (y2 := .int .i64 0) (u := ( /- t -/ 228)) hc (Below.refl _ _)
  refine (node_msg _ 0 fr to _ kids (HS.out.only hc q0.1) E1.out E2.out E3.out rfl E5.out).mono ?_
  rintro e w1 ⟨rfl, hb⟩
  clear q0
  obtain ⟨p1, p2, hz, -, -, -, -, -, x0, x1, x2, y0, y1, y2, T, hT⟩ := cg_start hc (hb.mono (by simp))
  have hz1 : w.heap.size + 1 < w1.heap.size := by omega
  have hz2 : w.heap.size + 1 + 1 < w1.heap.size := by omega
  clear hb hT
  have n1 := taMsgEnd; have n2 := taMsgMsg
  go_wp2_with fail
  have oW := p1.alloc (.cells #[.string fr, .string to, .slice a kids.len cap] ( /- t -/ 155))
  have kW := p2.alloc (.cells #[.string fr, .string to, .slice a kids.len cap] ( /- t -/ 155))
  have hbW := alloc_below w1 (.cells #[.string fr, .string to, .slice a kids.len cap] ( /- t -/ 155))
  have hzW : w.heap.size + 1 + 1 < (w1.alloc (.cells #[.string fr, .string to, .slice a kids.len cap] ( /- t -/ 155))).heap.size := by simp; omega
  have yy0 := (hbW.cell (p := ⟨w.heap.size + 1 + 1, 0, none⟩) hz2).trans y0
  have yy1 := (hbW.cell (p := ⟨w.heap.size + 1 + 1, 1, none⟩) hz2).trans y1
  have yy2 := (hbW.cell (p := ⟨w.heap.size + 1 + 1, 2, none⟩) hz2).trans y2
  have hcz : w.heap.size + 1 + 1 ≠ c := by omega
  generalize (w1.alloc (.cells #[.string fr, .string to, .slice a kids.len cap] ( /- t -/ 155))) = W at *
  clear y0 y1 y2 x0 x1 x2 p1 p2 hbW
  go_loopw [45] (fun iv wr => ∃ (g : F) (k mm : Nat), k + g.len = kids.len ∧ iv = .int .i64 k ∧ g.sz ≤ kids.sz ∧ At w a k g ∧ Ctr wr c mm ∧ mm ≤ 400 ∧ mm + g.sz = m + 1 + kids.sz ∧
    vldF kids recs 0 (41 - (depth + 1)) = vldF g recs 0 (41 - (depth + 1)) ∧ Only c W wr) (fun iv _ => kids.len - (intOf iv).toNat)
  case atStart => exact ⟨kids, 0, m + 1, by omega, rfl, Nat.le_refl _, HA.out, kW, by omega, rfl, rfl, Only.refl _ _⟩
  case round =>
    obtain ⟨g, k, mm, hk, rfl, h5, hg, kr, hmm, hsum, hvl, oR⟩ := hrel
    have HSUM := hide hsum
    have HVL := hide hvl
    have oA := oW.trans oR
    have z0 := (Same.cell (o := 0) (oR.block _ hzW hcz)).trans yy0
    have z1 := (Same.cell (o := 1) (oR.block _ hzW hcz)).trans yy1
    have z2 := (Same.cell (o := 2) (oR.block _ hzW hcz)).trans yy2
    have hzr : w.heap.size + 1 + 1 < wr.heap.size := Nat.lt_of_lt_of_le hzW oR.size
    clear hsum hvl
    have hv2 : vldN 2 fr to 0 kids recs ung (41 - depth) = vldF kids recs 0 (41 - (depth + 1)) := by
      rw [show 41 - (depth + 1) = 41 - depth - 1 by omega]
      unfold vldN
      rw [nodeB_shape _ _ _ _ _ _ _ _ hu, HSH.out, decide_eq_true (by omega)]
      rfl
    have HV2 := hide hv2
    clear hv2
    cases g with
    | nil =>
      have H5 : Hid (k = kids.len) := by unfold Hid; simpa [F.len] using hk
      have hge : kids.len ≤ k := Nat.le_of_eq H5.out.symm
      clear hk
      go_wp2_with fail
      go_ret
      have h6 := HSUM.out
      simp only [F.sz] at h6
      have h7 : decide (m + (kids.sz + 1) ≤ 400) = true := decide_eq_true (by omega)
      exact ⟨mm, by rw [HV2.out, HVL.out, h7]; rfl, oA, kr, fun _ => by omega⟩
    | cons lab kd fr' to' ix' kids' rest =>
      have HK : Hid (k + 1 + rest.len = kids.len) := by unfold Hid; simp only [F.len] at hk; omega
      have hlt : k < kids.len := by have := HK.out; omega
      have HZ : Hid (kids'.sz < n ∧ rest.sz ≤ kids.sz) := by have := HN.out; unfold Hid; simp only [F.sz] at h5; omega
      obtain ⟨b', o, rfl, _, _, _, _, _, q0, q1, q2, q3, q4, ⟨sv', q5, hsv0⟩, _⟩ := (hg.only hc oA).head
      obtain ⟨ka, kc, rfl, -, -⟩ := hsv0.at
      have hbr : b' < wr.heap.size := World.block_lt_of_cell? _ _ q0
      have HG := hide hg
      have HS0 := hide hsv0
      clear hk h5 hg hsv0
      go_wp2_with fail
      refine (ih _ kd ix' (depth + 1) recs 0 fr' to' _ kids' c mm HZ.out.1 (HS0.out.still (Still.of_below (alloc_below _ _))) (kr.alloc _) hmm (by omega) (by omega) hr (by omega) (by omega) (by omega)).mono ?_
      rintro e w3 ⟨m', rfl, o3, c3, hok⟩
      have oR3 := (oR.alloc _).trans o3
      have oA3 := oW.trans oR3
      have hvk : vldF (.cons lab kd fr' to' ix' kids' rest) recs 0 (41 - (depth + 1)) = (vldN kd fr' to' ix' kids' recs 0 (41 - (depth + 1)) && vldF rest recs 0 (41 - (depth + 1))) := rfl
      have HVK := hide hvk
      have hs6 := HSUM.out
      simp only [F.sz] at hs6
      have HS6 := hide hs6
      clear hvk hs6 o3
      cases hb8 : (vldN kd fr' to' ix' kids' recs 0 (41 - (depth + 1)) && decide (mm + (kids'.sz + 1) ≤ 400)) with
      | false =>
        have HB8 := hide hb8
        clear hok hb8
        go_wp2_with fail
        go_ret
        have hfin : (vldN 2 fr to 0 kids recs ung (41 - depth) && decide (m + (kids.sz + 1) ≤ 400)) = false := by
          rw [HV2.out, HVL.out, HVK.out]
          have h8 := HB8.out
          have h6 := HS6.out
          cases hvv : vldN kd fr' to' ix' kids' recs 0 (41 - (depth + 1)) with
          | false => rfl
          | true =>
            rw [hvv, Bool.true_and] at h8
            have h9 := of_decide_eq_false h8
            rw [decide_eq_false (by omega), Bool.and_false]
        exact ⟨m', by rw [hfin]; rfl, oA3, c3, by rw [hfin]; intro h; cases h⟩
      | true =>
        have HB8 := hide hb8
        have hm' := hok hb8
        have h10 : m' ≤ 400 := by
          simp only [Bool.and_eq_true, decide_eq_true_eq] at hb8
          omega
        have HM := hide hm'
        clear hok hb8 hm'
        go_wp2_with fail
        refine ⟨⟨rest, k + 1, m', by have := HK.out; omega, by go_num, HZ.out.2, HG.out.tail, c3, h10, ?_, ?_, oR3⟩, by simp [intOf]; omega⟩
        · have h6 := HS6.out
          have h7 := HM.out
          omega
        · rw [HVL.out, HVK.out]
          have h8 := HB8.out
          simp only [Bool.and_eq_true] at h8
          rw [h8.1, Bool.true_and]

theorem cg_all : ∀ n, CgAt n := by
  intro n
  induction n with
  | zero => intro w k ix depth recs ung fr to sv kids c m hn; omega
  | succ n ih =>
    intro w k ix depth recs ung fr to sv kids c m hn hs hc hm hd0 hd hr hr2 hu hu2
    by_cases hm4 : 400 ≤ m
    · exact cg_full w k ix depth recs ung fr to sv kids c m hc hm4 hm
    by_cases hd4 : 40 < depth
    · exact cg_deep w k ix depth recs ung fr to sv kids c m hc (by omega) hd4
    cases hsh : shapeB k fr to ix kids with
    | false => exact cg_bad w k ix depth recs ung fr to sv kids c m hs hc (by omega) hd0 (by omega) hu hsh
    | true =>
      by_cases h1 : k = 1
      · subst h1; exact cg_end w ix depth recs ung fr to sv kids c m hs hc (by omega) hd0 (by omega) hu hsh
      by_cases h2 : k = 2
      · subst h2; exact cg_msg n ih w ix depth recs ung fr to sv kids c m hn hs hc (by omega) hd0 (by omega) hr hr2 hu hsh
      by_cases h3 : k = 3
      · subst h3; exact cg_rec n ih w ix depth recs ung fr to sv kids c m hn hs hc (by omega) hd0 (by omega) hr hr2 hu hu2 hsh
      by_cases h4 : k = 4
      · subst h4; exact cg_var w ix depth recs ung fr to sv kids c m hs hc (by omega) hd0 (by omega) hu hsh
      · simp [shapeB, h1, h2, h3, h4] at hsh

set_option maxHeartbeats 400000 in
/-- GlobalNodes of the program. -/
theorem implNodes (w : World) (k ix : Int) (fr to : ByteArray) (sv : Value) (kids : F) (hs : Sl w sv kids) :
    Calls Tryd.prog 92 #[.agg #[.int .i64 k, .string fr, .string to, .int .i64 ix, sv]] w fun e w' => e = .returned (.int .i64 (nodesN k fr to ix kids : Nat)) ∧ Below w.heap.size w w' := by
  have HS := hide hs
  clear hs
  go_enter Tryd.func92, Tryd.ntmps92
  go_wp2_with fail
  have hb1 := alloc_below w (.cells #[.int .i64 k, .string fr, .string to, .int .i64 ix, sv] ( /- t -/ 25))
  have hb2 := hb1.alloc (by simp) (.cells #[.int .i64 0] ( /- t -/ 3))
  have hc : Ctr ((w.alloc (.cells #[.int .i64 k, .string fr, .string to, .int .i64 ix, sv] ( /- t -/ 25))).alloc (.cells #[.int .i64 0] ( /- t -/ 3))) (w.heap.size + 1) ((0 : Nat) : Int) :=
    ⟨_, by have := alloc_last (w.alloc (.cells #[.int .i64 k, .string fr, .string to, .int .i64 ix, sv] ( /- t -/ 25))) #[.int .i64 0] ( /- t -/ 3); simpa using this⟩
  refine (cg_all (kids.sz + 1) _ k ix 1 0 0 fr to sv kids (w.heap.size + 1) 0 (Nat.lt_succ_self _) (HS.out.still (Still.of_below hb2)) hc (by omega) (by omega) (by omega) (by omega) (by omega) (by omega) (by omega)).mono ?_
  rintro e w1 ⟨m', rfl, o1, c1, hok⟩
  have hb3 : Below w.heap.size w w1 := hb2.trans (o1.to_below (by omega) hb2.size)
  have hcell := c1.cell
  have hlt := c1.lt
  have hv : (vldN k fr to ix kids 0 0 (41 - 1) && decide (0 + (kids.sz + 1) ≤ 400)) = okN k fr to ix kids := by
    unfold okN
    rw [Nat.zero_add]
    rfl
  rw [hv] at hok ⊢
  clear hc hb1 hb2 o1 c1 hv
  cases ho : okN k fr to ix kids with
  | false =>
    have HO := hide ho
    clear hok ho
    go_wp2_with fail
    go_ret
    exact ⟨ret_int (by simp [nodesN, HO.out]), hb3⟩
  | true =>
    have HO := hide ho
    have hm := hok ho
    rw [Nat.zero_add] at hm
    subst hm
    clear hok ho
    go_wp2_with fail
    go_ret
    exact ⟨ret_int (by simp [nodesN, HO.out]), hb3⟩

set_option maxHeartbeats 400000 in
/-- GlobalValid of the program. -/
theorem implValid (w : World) (k ix : Int) (fr to : ByteArray) (sv : Value) (kids : F) (hs : Sl w sv kids) :
    Calls Tryd.prog 49 #[.agg #[.int .i64 k, .string fr, .string to, .int .i64 ix, sv]] w fun e w' => e = .returned (.bool (okN k fr to ix kids)) ∧ Below w.heap.size w w' := by
  have HS := hide hs
  clear hs
  go_enter Tryd.func49, Tryd.ntmps49
  go_wp2_with fail
  refine (implNodes _ k ix fr to sv kids (HS.out.still (Still.of_below (alloc_below _ _)))).mono ?_
  rintro e w1 ⟨rfl, hb⟩
  obtain ⟨-, -, -, -, -, -, hb2⟩ := box5 hb
  clear hb
  generalize hn : nodesN k fr to ix kids = x
  have HN := hide hn
  clear hn
  go_wp2_with fail
  go_ret
  refine ⟨ret_bool ?_, hb2⟩
  have := HN.out
  unfold nodesN at this
  show decide _ = _
  cases ho : okN k fr to ix kids with
  | false =>
    rw [ho] at this
    exact decide_eq_false (by simp at this; omega)
  | true =>
    rw [ho] at this
    exact decide_eq_true (by simp at this; omega)
end Go.Proofs.YtfppglfajbmapaaDoor
