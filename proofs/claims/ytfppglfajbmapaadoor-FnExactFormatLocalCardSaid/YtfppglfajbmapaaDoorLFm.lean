/- l2Format of the model: messages; FormatLocal of the model. -/
import Derived.Test.YtfppglfajbmapaaDoorLFt
import Derived.Deep.RegionHeld3
namespace Go.Proofs.YtfppglfajbmapaaDoor.Lo
open Go.RowKit

set_option maxHeartbeats 800000 in
set_option maxRecDepth 100000 in
theorem fmt_act2 (n : Nat) (ih : FmtAt n) (w : World) (ix b u d : Int) (fr : ByteArray) (sv : Value) (kids : F) (hn : kids.sz < n + 1) (hbig : kids.sz ≤ 400) (hs : Sl w sv kids) (hb : 0 ≤ b) (hu : 0 ≤ u) (hbd : b + d ≤ 40)
    (hall : vldN 2 fr ix kids b u d = true) (hsh : shapeB 2 fr ix kids = true) (hv : vldF kids b 0 (d - 1) = true) :
    Calls Tryd.prog 65 #[.agg #[.int .i64 2, .string fr, .int .i64 ix, sv]] w fun e w' => e = .returned (.string (txN 2 fr ix kids)) ∧ Below w.heap.size w w' := by
  have htot := txN_size hb hu hbd hall
  have htx : fr ++ mark 2 ++ txF kids .first ++ bclose = txN 2 fr ix kids := rfl
  obtain ⟨e1, rfl, e5⟩ := shape_act (Or.inl rfl) hsh
  have hfr : fr.size = 1 := role_size e1
  obtain ⟨a, cap, rfl, hlen, hat⟩ := hs.at
  unfold maxLen at hlen
  have hb0 := alloc_below w (.cells #[.int .i64 2, .string fr, .int .i64 0, .slice a kids.len cap] ( /- t -/ 35))
  obtain ⟨hc4, hsz⟩ := box4_now w (.int .i64 2) (.string fr) (.int .i64 0) (.slice a kids.len cap) ( /- t -/ 35)
  have HA := hide (hat.still (Still.of_below hb0))
  have HN := hide hn
  have HT := hide htot
  have HX := hide htx
  have HV := hide hv
  have HG := hide hbig
  clear hs hsh hat hn htot htx hall hv e1 e5 hbig
  go_enter Tryd.func65, Tryd.ntmps65
  go_wp2_with fail
  generalize (w.alloc (.cells #[.int .i64 2, .string fr, .int .i64 0, .slice a kids.len cap] ( /- t -/ 35))) = W at *
  go_loopw [3, 4, 5] (fun ov iv _ wr => ∃ (g : F) (s : ByteArray) (k : Nat), k + g.len = kids.len ∧ ov = .string s ∧ iv = .int .i64 k ∧ g.sz ≤ kids.sz ∧ At W a k g ∧ vldF g b 0 (d - 1) = true ∧ s ++ txF g (md k) ++ bclose = txN 2 fr 0 kids ∧ Below W.heap.size W wr) (fun _ iv _ _ => kids.len - (intOf iv).toNat)
  case atStart => exact ⟨kids, fr ++ mark 2, 0, by omega, rfl, rfl, Nat.le_refl _, HA.out, HV.out, HX.out, Below.refl _ _⟩
  case round =>
    obtain ⟨g, s, k, hk, rfl, rfl, h5, hg, hv, htx, hbw⟩ := hrel
    have hssz : s.size ≤ 3000 := by
      have h1 := HT.out
      have h2 := HG.out
      rw [← htx, ByteArray.size_append, ByteArray.size_append] at h1
      omega
    have e4 := (Still.of_below hbw) _ _ hc4
    have HB := hide (hb0.trans (hbw.mono (Nat.le_of_lt hsz)))
    have HY := hide htx
    have HW := hide hv
    cases g with
    | nil =>
      have H5 : Hid (k = kids.len) := by unfold Hid; simpa [F.len] using hk
      have hge : kids.len ≤ k := Nat.le_of_eq H5.out.symm
      clear hk htx hv
      go_wp2_with fail
      go_ret
      refine ⟨?_, HB.out⟩
      rw [← HY.out]
      exact congrArg (fun x => Ending.returned (Value.string (x ++ bclose))) (bytes_nil s).symm
    | cons lab kd fr' ix' kids' rest =>
      rw [txF_md] at htx
      have hlt : k < kids.len := by simp only [F.len] at hk; omega
      obtain ⟨b', o, rfl, _, _, _, _, q0, q1, q2, q3, ⟨sv', q4, hsv⟩, _⟩ := (hg.still (Still.of_below hbw)).head
      have HK := hide hk
      have HX2 := hide htx
      have HS := hide hsv
      have HG2 := hide hg
      have H5 := hide h5
      have hz : s.size + (1 + lab.size + (txN kd fr' ix' kids').size) ≤ 3000 := by
        have h1 := HT.out
        have h2 := HG.out
        rw [← htx] at h1
        simp only [ByteArray.size_append, sepB_size] at h1
        omega
      simp only [vldF, Bool.and_eq_true] at hv
      have HW2 := hide hv
      have hbr := World.block_lt_of_cell? _ _ q0
      have hsd : Still wr wr.drew := fun _ _ h => h
      have HSd := hide (HS.out.still hsd)
      have hz1 : ∀ c : UInt8, (s ++ ⟨#[c]⟩).size = s.size + 1 := fun c => by rw [ByteArray.size_append]; rfl
      have hz2 : ∀ c : UInt8, (s ++ ⟨#[c]⟩ ++ lab).size = s.size + 1 + lab.size := fun c => by rw [ByteArray.size_append, hz1]
      have HZ1 := hide hz1
      have n1 : ∀ (c : UInt8) (W : World), (Op.stringOp .add s ⟨#[c]⟩).run Tryd.prog W = .ok (.string (s ++ ⟨#[c]⟩)) W := fun c W => run_string_add_sum W _ _ (show s.size + 1 ≤ _ by omega)
      have n2 : ∀ (c : UInt8) (W : World), (Op.stringOp .add (s ++ ⟨#[c]⟩) lab).run Tryd.prog W = .ok (.string (s ++ ⟨#[c]⟩ ++ lab)) W := fun c W => run_string_add_sum W _ _ (by rw [hz1]; omega)
      have n3 : ∀ (c : UInt8) (W : World), (Op.stringOp .add (s ++ ⟨#[c]⟩ ++ lab) (txN kd fr' ix' kids')).run Tryd.prog W = .ok (.string (s ++ ⟨#[c]⟩ ++ lab ++ txN kd fr' ix' kids')) W := fun c W => run_string_add_sum W _ _ (by rw [hz2]; omega)
      clear hk h5 hg hsv htx hv HW HY hz1 hz2 hz
      cases hkb : ((k : Int) == 0)
      all_goals go_wp2_with fail
      all_goals
        (go_region_held3 (fun w' => w'.cell? ⟨w.heap.size, 3, none⟩ = some (.slice (some ⟨b', o, none⟩) kids.len cap) ∧ w'.cell? ⟨b', o + k * 5, none⟩ = some (.string lab) ∧ w'.cell? ⟨b', o + k * 5 + 1, none⟩ = some (.int .i64 kd) ∧ w'.cell? ⟨b', o + k * 5 + 2, none⟩ = some (.string fr') ∧ w'.cell? ⟨b', o + k * 5 + 3, none⟩ = some (.int .i64 ix') ∧ w'.cell? ⟨b', o + k * 5 + 4, none⟩ = some sv')
          (first | exact ⟨e4, q0, q1, q2, q3, q4⟩ | exact ⟨g4, l0, l1, l2, l3, l4⟩)
          ((first
            | (go_at_call 65; refine (ih _ kd ix' b 0 (d - 1) fr' sv' kids' ?_ ?_ ?_ ?_ ?_ ?_ ?_).mono ?_; (have h1 := H5.out; have h2 := HN.out; simp only [F.sz] at h1; omega); (have h1 := H5.out; have h2 := HG.out; simp only [F.sz] at h1; omega); (exact HSd.out); (exact hb); (omega); (omega); (exact HW2.out.1);
               rintro e w6 ⟨rfl, hb12⟩; have hst := hsd.trans (Still.of_below hb12); have g4 := hst _ _ e4; have l0 := hst _ _ q0; have l1 := hst _ _ q1; have l2 := hst _ _ q2; have l3 := hst _ _ q3; have l4 := hst _ _ q4))))
        have hb14 := hbw.drew.trans (hb12.mono hbw.drew.size)
        clear hb12 hst g4 l0 l1 l2 l3 l4
        go_wp2_with fail
        refine ⟨⟨rest, s ++ sepB k ++ lab ++ txN kd fr' ix' kids', k + 1, ?_, ?_, by go_num, ?_, HG2.out.tail, HW2.out.2, ?_, ?_⟩, by simp [intOf]; omega⟩
        · have := HK.out
          simp only [F.len] at this
          omega
        · by_cases hk0 : k = 0
          · first
            | (exfalso; rw [hk0] at hkb; simp at hkb; done)
            | (unfold sepB; rw [if_pos hk0]; rfl)
          · first
            | (exfalso; have h9 := beq_iff_eq.1 hkb; omega)
            | (unfold sepB; rw [if_neg hk0]; rfl)
        · have := H5.out
          simp only [F.sz] at this
          omega
        · rw [← HX2.out]
          simp only [bytes_assoc]
        · exact hb14

set_option maxHeartbeats 800000 in
set_option maxRecDepth 100000 in
theorem fmt_act3 (n : Nat) (ih : FmtAt n) (w : World) (ix b u d : Int) (fr : ByteArray) (sv : Value) (kids : F) (hn : kids.sz < n + 1) (hbig : kids.sz ≤ 400) (hs : Sl w sv kids) (hb : 0 ≤ b) (hu : 0 ≤ u) (hbd : b + d ≤ 40)
    (hall : vldN 3 fr ix kids b u d = true) (hsh : shapeB 3 fr ix kids = true) (hv : vldF kids b 0 (d - 1) = true) :
    Calls Tryd.prog 65 #[.agg #[.int .i64 3, .string fr, .int .i64 ix, sv]] w fun e w' => e = .returned (.string (txN 3 fr ix kids)) ∧ Below w.heap.size w w' := by
  have htot := txN_size hb hu hbd hall
  have htx : fr ++ mark 3 ++ txF kids .first ++ bclose = txN 3 fr ix kids := rfl
  obtain ⟨e1, rfl, e5⟩ := shape_act (Or.inr rfl) hsh
  have hfr : fr.size = 1 := role_size e1
  obtain ⟨a, cap, rfl, hlen, hat⟩ := hs.at
  unfold maxLen at hlen
  have hb0 := alloc_below w (.cells #[.int .i64 3, .string fr, .int .i64 0, .slice a kids.len cap] ( /- t -/ 35))
  obtain ⟨hc4, hsz⟩ := box4_now w (.int .i64 3) (.string fr) (.int .i64 0) (.slice a kids.len cap) ( /- t -/ 35)
  have HA := hide (hat.still (Still.of_below hb0))
  have HN := hide hn
  have HT := hide htot
  have HX := hide htx
  have HV := hide hv
  have HG := hide hbig
  clear hs hsh hat hn htot htx hall hv e1 e5 hbig
  go_enter Tryd.func65, Tryd.ntmps65
  go_wp2_with fail
  generalize (w.alloc (.cells #[.int .i64 3, .string fr, .int .i64 0, .slice a kids.len cap] ( /- t -/ 35))) = W at *
  go_loopw [3, 4, 5] (fun ov iv _ wr => ∃ (g : F) (s : ByteArray) (k : Nat), k + g.len = kids.len ∧ ov = .string s ∧ iv = .int .i64 k ∧ g.sz ≤ kids.sz ∧ At W a k g ∧ vldF g b 0 (d - 1) = true ∧ s ++ txF g (md k) ++ bclose = txN 3 fr 0 kids ∧ Below W.heap.size W wr) (fun _ iv _ _ => kids.len - (intOf iv).toNat)
  case atStart => exact ⟨kids, fr ++ mark 3, 0, by omega, rfl, rfl, Nat.le_refl _, HA.out, HV.out, HX.out, Below.refl _ _⟩
  case round =>
    obtain ⟨g, s, k, hk, rfl, rfl, h5, hg, hv, htx, hbw⟩ := hrel
    have hssz : s.size ≤ 3000 := by
      have h1 := HT.out
      have h2 := HG.out
      rw [← htx, ByteArray.size_append, ByteArray.size_append] at h1
      omega
    have e4 := (Still.of_below hbw) _ _ hc4
    have HB := hide (hb0.trans (hbw.mono (Nat.le_of_lt hsz)))
    have HY := hide htx
    have HW := hide hv
    cases g with
    | nil =>
      have H5 : Hid (k = kids.len) := by unfold Hid; simpa [F.len] using hk
      have hge : kids.len ≤ k := Nat.le_of_eq H5.out.symm
      clear hk htx hv
      go_wp2_with fail
      go_ret
      refine ⟨?_, HB.out⟩
      rw [← HY.out]
      exact congrArg (fun x => Ending.returned (Value.string (x ++ bclose))) (bytes_nil s).symm
    | cons lab kd fr' ix' kids' rest =>
      rw [txF_md] at htx
      have hlt : k < kids.len := by simp only [F.len] at hk; omega
      obtain ⟨b', o, rfl, _, _, _, _, q0, q1, q2, q3, ⟨sv', q4, hsv⟩, _⟩ := (hg.still (Still.of_below hbw)).head
      have HK := hide hk
      have HX2 := hide htx
      have HS := hide hsv
      have HG2 := hide hg
      have H5 := hide h5
      have hz : s.size + (1 + lab.size + (txN kd fr' ix' kids').size) ≤ 3000 := by
        have h1 := HT.out
        have h2 := HG.out
        rw [← htx] at h1
        simp only [ByteArray.size_append, sepB_size] at h1
        omega
      simp only [vldF, Bool.and_eq_true] at hv
      have HW2 := hide hv
      have hbr := World.block_lt_of_cell? _ _ q0
      have hsd : Still wr wr.drew := fun _ _ h => h
      have HSd := hide (HS.out.still hsd)
      have hz1 : ∀ c : UInt8, (s ++ ⟨#[c]⟩).size = s.size + 1 := fun c => by rw [ByteArray.size_append]; rfl
      have hz2 : ∀ c : UInt8, (s ++ ⟨#[c]⟩ ++ lab).size = s.size + 1 + lab.size := fun c => by rw [ByteArray.size_append, hz1]
      have HZ1 := hide hz1
      have n1 : ∀ (c : UInt8) (W : World), (Op.stringOp .add s ⟨#[c]⟩).run Tryd.prog W = .ok (.string (s ++ ⟨#[c]⟩)) W := fun c W => run_string_add_sum W _ _ (show s.size + 1 ≤ _ by omega)
      have n2 : ∀ (c : UInt8) (W : World), (Op.stringOp .add (s ++ ⟨#[c]⟩) lab).run Tryd.prog W = .ok (.string (s ++ ⟨#[c]⟩ ++ lab)) W := fun c W => run_string_add_sum W _ _ (by rw [hz1]; omega)
      have n3 : ∀ (c : UInt8) (W : World), (Op.stringOp .add (s ++ ⟨#[c]⟩ ++ lab) (txN kd fr' ix' kids')).run Tryd.prog W = .ok (.string (s ++ ⟨#[c]⟩ ++ lab ++ txN kd fr' ix' kids')) W := fun c W => run_string_add_sum W _ _ (by rw [hz2]; omega)
      clear hk h5 hg hsv htx hv HW HY hz1 hz2 hz
      cases hkb : ((k : Int) == 0)
      all_goals go_wp2_with fail
      all_goals
        (go_region_held3 (fun w' => w'.cell? ⟨w.heap.size, 3, none⟩ = some (.slice (some ⟨b', o, none⟩) kids.len cap) ∧ w'.cell? ⟨b', o + k * 5, none⟩ = some (.string lab) ∧ w'.cell? ⟨b', o + k * 5 + 1, none⟩ = some (.int .i64 kd) ∧ w'.cell? ⟨b', o + k * 5 + 2, none⟩ = some (.string fr') ∧ w'.cell? ⟨b', o + k * 5 + 3, none⟩ = some (.int .i64 ix') ∧ w'.cell? ⟨b', o + k * 5 + 4, none⟩ = some sv')
          (first | exact ⟨e4, q0, q1, q2, q3, q4⟩ | exact ⟨g4, l0, l1, l2, l3, l4⟩)
          ((first
            | (go_at_call 65; refine (ih _ kd ix' b 0 (d - 1) fr' sv' kids' ?_ ?_ ?_ ?_ ?_ ?_ ?_).mono ?_; (have h1 := H5.out; have h2 := HN.out; simp only [F.sz] at h1; omega); (have h1 := H5.out; have h2 := HG.out; simp only [F.sz] at h1; omega); (exact HSd.out); (exact hb); (omega); (omega); (exact HW2.out.1);
               rintro e w6 ⟨rfl, hb12⟩; have hst := hsd.trans (Still.of_below hb12); have g4 := hst _ _ e4; have l0 := hst _ _ q0; have l1 := hst _ _ q1; have l2 := hst _ _ q2; have l3 := hst _ _ q3; have l4 := hst _ _ q4))))
        have hb14 := hbw.drew.trans (hb12.mono hbw.drew.size)
        clear hb12 hst g4 l0 l1 l2 l3 l4
        go_wp2_with fail
        refine ⟨⟨rest, s ++ sepB k ++ lab ++ txN kd fr' ix' kids', k + 1, ?_, ?_, by go_num, ?_, HG2.out.tail, HW2.out.2, ?_, ?_⟩, by simp [intOf]; omega⟩
        · have := HK.out
          simp only [F.len] at this
          omega
        · by_cases hk0 : k = 0
          · first
            | (exfalso; rw [hk0] at hkb; simp at hkb; done)
            | (unfold sepB; rw [if_pos hk0]; rfl)
          · first
            | (exfalso; have h9 := beq_iff_eq.1 hkb; omega)
            | (unfold sepB; rw [if_neg hk0]; rfl)
        · have := H5.out
          simp only [F.sz] at this
          omega
        · rw [← HX2.out]
          simp only [bytes_assoc]
        · exact hb14

theorem fmt_all : ∀ n, FmtAt n := by
  intro n
  induction n with
  | zero => intro w k ix b u d fr sv kids hn; omega
  | succ n ih =>
    intro w k ix b u d fr sv kids hn hbig hs hb hu hbd hv
    have hv2 := hv
    unfold vldN at hv2
    obtain ⟨hd, hsh, hk⟩ := node_kinds hu hv2
    rcases hk with rfl | ⟨rfl, h0, h1, -⟩ | ⟨rfl, h3⟩ | ⟨hkk, h2⟩
    · exact fmt_end w ix fr sv kids hs
    · exact fmt_var w ix fr sv kids hs h0 (by omega)
    · exact fmt_rec n ih w ix b u d fr sv kids hn hbig hs hb hu hbd hsh h3
    · rcases hkk with rfl | rfl
      · exact fmt_act2 n ih w ix b u d fr sv kids hn hbig hs hb hu hbd hv hsh h2
      · exact fmt_act3 n ih w ix b u d fr sv kids hn hbig hs hb hu hbd hv hsh h2

set_option maxHeartbeats 400000 in
set_option maxRecDepth 100000 in
/-- FormatLocal of the model. -/
theorem specFormat (w : World) (k ix : Int) (fr : ByteArray) (sv : Value) (kids : F) (hs : Sl w sv kids) (hbig : kids.sz ≤ 1048576) :
    Calls Tryd.prog 25 #[.agg #[.int .i64 k, .string fr, .int .i64 ix, sv]] w fun e w' => e = .returned (.string (textN k fr ix kids)) ∧ Below w.heap.size w w' := by
  have HS := hide hs
  clear hs
  go_enter Tryd.func25, Tryd.ntmps25
  go_wp2_with fail
  refine (specValid _ k ix fr sv kids (HS.out.still (Still.of_below (alloc_below _ _))) hbig).mono ?_
  rintro e w1 ⟨rfl, hb⟩
  have BX := (Box4.now w (.int .i64 k) (.string fr) (.int .i64 ix) sv ( /- t -/ 35)).below hb
  obtain ⟨c0, c1, c2, c3⟩ := BX.cells
  have hlt := BX.lt
  have hb2 := alloc_then hb
  clear BX
  clear hb
  cases hv : okN k fr ix kids with
  | false =>
    go_wp2_with fail
    go_ret
    refine ⟨?_, hb2⟩
    unfold textN
    rw [hv]
    rfl
  | true =>
    have HV := hide hv
    have h2 := hv
    unfold okN at h2
    simp only [Bool.and_eq_true, decide_eq_true_eq] at h2
    have H2 := hide h2
    clear hv h2
    go_wp2_with fail
    refine (fmt_all (kids.sz + 1) _ k ix 0 0 40 fr sv kids (Nat.lt_succ_self _) (by have := H2.out.2; omega) (HS.out.still (Still.of_below hb2)) (by omega) (by omega) (by omega) H2.out.1).mono ?_
    rintro e w2 ⟨rfl, hb3⟩
    have hb4 := hb2.trans (hb3.mono hb2.size)
    clear hb3
    go_wp2_with fail
    go_ret
    refine ⟨?_, hb4⟩
    unfold textN
    rw [HV.out]
    rfl
end Go.Proofs.YtfppglfajbmapaaDoor.Lo
