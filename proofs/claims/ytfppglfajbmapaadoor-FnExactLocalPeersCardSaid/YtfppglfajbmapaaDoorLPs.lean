/- l2Peers of the model. -/
import Derived.Test.YtfppglfajbmapaaDoorIn
import Derived.Test.YtfppglfajbmapaaDoorLRt
import Derived.Test.YtfppglfajbmapaaDoorLSc
import Derived.Test.YtfppglfajbmapaaDoorLLi
import Derived.Deep.RegionHeld3
namespace Go.Proofs.YtfppglfajbmapaaDoor.Lo
open Go.RowKit

/-- Some node of the list names the letter. -/
def namFb (c : UInt8) : F → Bool
  | .nil => false
  | .cons _ k fr _ kids rest => ((k == 2 || k == 3) && (hasB fr c)) || namFb c kids || namFb c rest
def namNb (c : UInt8) (k : Int) (fr : ByteArray) (kids : F) : Bool := ((k == 2 || k == 3) && (hasB fr c)) || namFb c kids
theorem namFb_iff (c : UInt8) : ∀ f : F, namFb c f = true ↔ namF c f := by
  intro f
  induction f with
  | nil => simp [namFb, namF]
  | cons lab k fr ix kids rest ihk ihr =>
    simp only [namFb, namF, Bool.or_eq_true, Bool.and_eq_true, beq_iff_eq, ihk, ihr, hasB_iff, or_assoc]
theorem namNb_iff (c : UInt8) (k : Int) (fr : ByteArray) (kids : F) : namNb c k fr kids = true ↔ namN c k fr kids := by
  simp only [namNb, namN, Bool.or_eq_true, Bool.and_eq_true, beq_iff_eq, namFb_iff, hasB_iff]

theorem kids_valid {k : Int} {fr : ByteArray} {ix : Int} {kids : F} {b u d : Int} (hu : 0 ≤ u) (h : vldN k fr ix kids b u d = true) : ∃ b' u' d', 0 ≤ u' ∧ vldF kids b' u' d' = true := by
  unfold vldN at h
  obtain ⟨-, hsh, hk⟩ := node_kinds hu h
  rcases hk with rfl | ⟨-, -, -, rfl⟩ | ⟨-, h3⟩ | ⟨-, h3⟩
  · have := (shape_end hsh).2.2
    subst this
    exact ⟨0, 0, 0, Int.le_refl _, rfl⟩
  · exact ⟨0, 0, 0, Int.le_refl _, rfl⟩
  · exact ⟨_, _, _, by omega, h3⟩
  · exact ⟨_, _, _, Int.le_refl _, h3⟩

def RoAt (n : Nat) : Prop := ∀ (w : World) (k ix b u d : Int) (fr : ByteArray) (sv : Value) (kids : F) (p : UInt8 → Bool), kids.sz < n → Sl w sv kids → 0 ≤ u → vldN k fr ix kids b u d = true →
  Calls Tryd.prog 69 #[.string (setS p), .agg #[.int .i64 k, .string fr, .int .i64 ix, sv]] w fun e w' => e = .returned (.string (setS (fun c => p c || namNb c k fr kids))) ∧ Below w.heap.size w w'

set_option maxHeartbeats 1600000 in
set_option maxRecDepth 100000 in
theorem ro_none (n : Nat) (ih : RoAt n) (w : World) (k ix b u d : Int) (fr : ByteArray) (sv : Value) (kids : F) (p : UInt8 → Bool) (hn : kids.sz < n + 1) (hs : Sl w sv kids) (hu : 0 ≤ u) (hv : vldN k fr ix kids b u d = true) (hk2 : (k == 2 || k == 3) = false) :
    Calls Tryd.prog 69 #[.string (setS p), .agg #[.int .i64 k, .string fr, .int .i64 ix, sv]] w fun e w' => e = .returned (.string (setS (fun c => p c || namNb c k fr kids))) ∧ Below w.heap.size w w' := by
  obtain ⟨b', u', d', hu0, hvk⟩ := kids_valid hu hv
  have HV := hide hvk
  obtain ⟨a, cap, rfl, hlen, hat⟩ := hs.at
  unfold maxLen at hlen
  have HA := hide hat
  have HN := hide hn
  have hb0 := alloc_below w (.cells #[.int .i64 k, .string fr, .int .i64 ix, .slice a kids.len cap] ( /- t -/ 35))
  have hbx := alloc_last w #[.int .i64 k, .string fr, .int .i64 ix, .slice a kids.len cap] ( /- t -/ 35)
  have HB0 := hide hb0
  clear hs hat hn hv hvk hb0
  go_enter Tryd.func69, Tryd.ntmps69
  go_wp2_with (first | (go_at_call 100; refine (act_calls k false hk2 _).mono ?_; rintro e w' ⟨rfl, rfl⟩) | fail)
  generalize (w.alloc (.cells #[.int .i64 k, .string fr, .int .i64 ix, .slice a kids.len cap] ( /- t -/ 35))) = W at *
  have c4 : W.cell? ⟨w.heap.size, 3, none⟩ = some (.slice a kids.len cap) := cell_of_heap (o := 3) hbx
  have hWl : w.heap.size < W.heap.size := World.block_lt_of_cell? _ _ c4
  clear hbx
  go_loopw [0, 5] (fun sv iv wr => ∃ (g : F) (j : Nat) (q : UInt8 → Bool), j + g.len = kids.len ∧ sv = .string (setS q) ∧ iv = .int .i64 j ∧ g.sz ≤ kids.sz ∧ At w a j g ∧ vldF g b' u' d' = true ∧ (∀ c, (q c || namFb c g) = (p c || namFb c kids)) ∧ wr.cell? ⟨w.heap.size, 3, none⟩ = some (.slice a kids.len cap) ∧ Below w.heap.size w wr) (fun _ iv _ => kids.len - (intOf iv).toNat)
  case atStart => exact ⟨kids, 0, _, by omega, rfl, rfl, Nat.le_refl _, HA.out, HV.out, fun _ => rfl, c4, HB0.out⟩
  case round =>
    obtain ⟨g, j, q, hk, rfl, rfl, h5, hg, hv, hq, hc4, hbw⟩ := hrel
    have HQ := hide hq
    have HB := hide hbw
    have HG := hide hg
    have HK := hide hk
    have H5 := hide h5
    clear hq h5
    cases g with
    | nil =>
      have hge : kids.len ≤ j := by simp only [F.len] at hk; omega
      clear hk hg hv hbw
      go_wp2_with fail
      go_ret
      refine ⟨?_, HB.out⟩
      refine congrArg (fun x => Ending.returned (Value.string x)) (setS_congr fun c _ => ?_)
      have := HQ.out c
      simp only [namFb, Bool.or_false] at this
      rw [this]
      simp only [namNb]
      rw [hk2, Bool.false_and, Bool.false_or]
    | cons lab kd fr' ix' kids' rest =>
      have hlt : j < kids.len := by simp only [F.len] at hk; omega
      obtain ⟨bb, o, rfl, _, _, _, _, q0, q1, q2, q3, ⟨sv', q4, hsv⟩, _⟩ := (hg.still (Still.of_below hbw)).head
      have HS := hide hsv
      simp only [vldF, Bool.and_eq_true] at hv
      have HV2 := hide hv
      clear hk hg hv hsv
      go_wp2_with fail
      refine (ih wr kd ix' b' u' d' fr' sv' kids' q ?_ HS.out hu0 HV2.out.1).mono ?_
      · have h1 := HN.out
        have h2 := H5.out
        simp only [F.sz] at h2
        omega
      rintro e w3 ⟨rfl, hb5⟩
      have HB2 := hide (hbw.trans (hb5.mono hbw.size))
      have hc4' := (hb5.cell (p := ⟨w.heap.size, 3, none⟩) (World.block_lt_of_cell? _ _ hc4)).trans hc4
      clear hb5
      go_wp2_with fail
      refine ⟨⟨rest, j + 1, _, ?_, rfl, by go_num, ?_, HG.out.tail, HV2.out.2, fun c => ?_, hc4', HB2.out⟩, by simp [intOf]; omega⟩
      · have := HK.out
        simp only [F.len] at this
        omega
      · have := H5.out
        simp only [F.sz] at this
        omega
      · have h9 := HQ.out c
        simp only [namFb] at h9
        rw [← h9]
        simp only [namNb, Bool.or_assoc]

set_option maxHeartbeats 1600000 in
set_option maxRecDepth 100000 in
theorem ro_own (n : Nat) (ih : RoAt n) (w : World) (k ix b u d : Int) (fr : ByteArray) (sv : Value) (kids : F) (p : UInt8 → Bool) (hn : kids.sz < n + 1) (hs : Sl w sv kids) (hu : 0 ≤ u) (hv : vldN k fr ix kids b u d = true) (hk2 : (k == 2 || k == 3) = true) :
    Calls Tryd.prog 69 #[.string (setS p), .agg #[.int .i64 k, .string fr, .int .i64 ix, sv]] w fun e w' => e = .returned (.string (setS (fun c => p c || namNb c k fr kids))) ∧ Below w.heap.size w w' := by
  obtain ⟨b', u', d', hu0, hvk⟩ := kids_valid hu hv
  have HV := hide hvk
  obtain ⟨a, cap, rfl, hlen, hat⟩ := hs.at
  unfold maxLen at hlen
  have HA := hide hat
  have HN := hide hn
  have hkk : k = 2 ∨ k = 3 := by simpa using hk2
  have hsh := (node_kinds hu (by unfold vldN at hv; exact hv)).2.1
  obtain ⟨e1, -, -⟩ := shape_act hkk hsh
  obtain ⟨hf1, hf2, hf3⟩ := role_one e1
  have hb0 := alloc_below w (.cells #[.int .i64 k, .string fr, .int .i64 ix, .slice a kids.len cap] ( /- t -/ 35))
  have hbx := alloc_last w #[.int .i64 k, .string fr, .int .i64 ix, .slice a kids.len cap] ( /- t -/ 35)
  have HB0 := hide hb0
  have HF2 := hide hf2
  have HF3 := hide hf3
  clear hs hat hn hv hvk hb0 hf2 hf3 hsh e1 hkk
  obtain ⟨s0, hs0⟩ : ∃ s0, s0 = setS p := ⟨_, rfl⟩
  obtain ⟨s1, hs1⟩ : ∃ s1, s1 = setS (fun x => x == fr[0] || p x) := ⟨_, rfl⟩
  have i1 : ∀ W : World, Calls Tryd.prog 114 #[.string s0, .int .u8 (fr[0].toNat : Int)] W fun e w' => e = .returned (.string s1) ∧ Below W.heap.size W w' := fun W => by rw [hs0, hs1]; exact ins_set p fr[0] HF2.out W
  rw [← hs0]
  have I1 := hide i1
  have HS2 := hide hs1
  clear i1 hs0 hs1
  go_enter Tryd.func69, Tryd.ntmps69
  go_wp2_with (first | (go_at_call 100; refine (act_calls k true hk2 _).mono ?_; rintro e w' ⟨rfl, rfl⟩) | fail)
  generalize (w.alloc (.cells #[.int .i64 k, .string fr, .int .i64 ix, .slice a kids.len cap] ( /- t -/ 35))) = W at *
  have c1 : W.cell? ⟨w.heap.size, 1, none⟩ = some (.string fr) := cell_of_heap (o := 1) hbx
  have c4 : W.cell? ⟨w.heap.size, 3, none⟩ = some (.slice a kids.len cap) := cell_of_heap (o := 3) hbx
  have hWl : w.heap.size < W.heap.size := World.block_lt_of_cell? _ _ c4
  clear hbx
  refine (I1.out _).mono ?_
  rintro e w6 ⟨rfl, hb6⟩
  have hbS := hb6
  have d4 : w6.cell? ⟨w.heap.size, 3, none⟩ = some (.slice a kids.len cap) := (hbS.cell (p := ⟨w.heap.size, 3, none⟩) hWl).trans c4
  have HBS := hide (HB0.out.trans (hbS.mono HB0.out.size))
  clear hbS hb6 c1 c4
  go_wp2_with fail
  go_loopw [0, 5] (fun sv iv wr => ∃ (g : F) (j : Nat) (q : UInt8 → Bool), j + g.len = kids.len ∧ sv = .string (setS q) ∧ iv = .int .i64 j ∧ g.sz ≤ kids.sz ∧ At w a j g ∧ vldF g b' u' d' = true ∧ (∀ c, (q c || namFb c g) = ((c == fr[0] || p c) || namFb c kids)) ∧ wr.cell? ⟨w.heap.size, 3, none⟩ = some (.slice a kids.len cap) ∧ Below w.heap.size w wr) (fun _ iv _ => kids.len - (intOf iv).toNat)
  case atStart => exact ⟨kids, 0, fun x => x == fr[0] || p x, by omega, by rw [HS2.out], rfl, Nat.le_refl _, HA.out, HV.out, fun _ => rfl, d4, HBS.out⟩
  case round =>
    obtain ⟨g, j, q, hk, rfl, rfl, h5, hg, hv, hq, hc4, hbw⟩ := hrel
    have HQ := hide hq
    have HB := hide hbw
    have HG := hide hg
    have HK := hide hk
    have H5 := hide h5
    clear hq h5
    cases g with
    | nil =>
      have hge : kids.len ≤ j := by simp only [F.len] at hk; omega
      clear hk hg hv hbw
      go_wp2_with fail
      go_ret
      refine ⟨?_, HB.out⟩
      refine congrArg (fun x => Ending.returned (Value.string x)) (setS_congr fun c _ => ?_)
      have := HQ.out c
      simp only [namFb, Bool.or_false] at this
      rw [this]
      simp only [namNb]
      rw [hk2, HF3.out c]
      cases p c <;> cases (c == fr[0]) <;> simp
    | cons lab kd fr' ix' kids' rest =>
      have hlt : j < kids.len := by simp only [F.len] at hk; omega
      obtain ⟨bb, o, rfl, _, _, _, _, q0, q1, q2, q3, ⟨sv', q4, hsv⟩, _⟩ := (hg.still (Still.of_below hbw)).head
      have HS := hide hsv
      simp only [vldF, Bool.and_eq_true] at hv
      have HV2 := hide hv
      clear hk hg hv hsv
      go_wp2_with fail
      refine (ih wr kd ix' b' u' d' fr' sv' kids' q ?_ HS.out hu0 HV2.out.1).mono ?_
      · have h1 := HN.out
        have h2 := H5.out
        simp only [F.sz] at h2
        omega
      rintro e w3 ⟨rfl, hb5⟩
      have HB2 := hide (hbw.trans (hb5.mono hbw.size))
      have hc4' := (hb5.cell (p := ⟨w.heap.size, 3, none⟩) (World.block_lt_of_cell? _ _ hc4)).trans hc4
      clear hb5
      go_wp2_with fail
      refine ⟨⟨rest, j + 1, _, ?_, rfl, by go_num, ?_, HG.out.tail, HV2.out.2, fun c => ?_, hc4', HB2.out⟩, by simp [intOf]; omega⟩
      · have := HK.out
        simp only [F.len] at this
        omega
      · have := H5.out
        simp only [F.sz] at this
        omega
      · have h9 := HQ.out c
        simp only [namFb] at h9
        rw [← h9]
        simp only [namNb, Bool.or_assoc]

theorem ro_all : ∀ n, RoAt n := by
  intro n
  induction n with
  | zero => intro w k ix b u d fr sv kids p hn; omega
  | succ n ih =>
    intro w k ix b u d fr sv kids p hn hs hu hv
    cases h2 : (k == 2 || k == 3) with
    | true => exact ro_own n ih w k ix b u d fr sv kids p hn hs hu hv h2
    | false => exact ro_none n ih w k ix b u d fr sv kids p hn hs hu hv h2

/-- The peers of a local type. -/
def peersN (k : Int) (fr : ByteArray) (ix : Int) (kids : F) : ByteArray := if okN k fr ix kids then setS (fun c => namNb c k fr kids) else ⟨#[]⟩
theorem peersN_text (k : Int) (fr : ByteArray) (ix : Int) (kids : F) : setS (hasB (textN k fr ix kids)) = peersN k fr ix kids := by
  unfold peersN textN
  cases h : okN k fr ix kids with
  | false => rfl
  | true =>
    rw [if_pos rfl, if_pos rfl]
    unfold okN at h
    simp only [Bool.and_eq_true] at h
    refine setS_congr fun c hc => ?_
    have h1 : 65 ≤ c.toNat ∧ c.toNat ≤ 67 := by rcases hc with rfl | rfl | rfl <;> decide
    rw [Bool.eq_iff_iff, hasB_iff, namNb_iff]
    exact txN_letters h1.1 h1.2 (by omega) (by omega) (by omega) h.1

set_option maxHeartbeats 400000 in
set_option maxRecDepth 100000 in
/-- LocalPeers of the model. -/
theorem specPeers (w : World) (k ix : Int) (fr : ByteArray) (sv : Value) (kids : F) (hs : Sl w sv kids) (hbig : kids.sz ≤ 1048576) :
    Calls Tryd.prog 29 #[.agg #[.int .i64 k, .string fr, .int .i64 ix, sv]] w fun e w' => e = .returned (.string (peersN k fr ix kids)) ∧ Below w.heap.size w w' := by
  have HS := hide hs
  clear hs
  go_enter Tryd.func29, Tryd.ntmps29
  go_wp2_with fail
  refine (specValid _ k ix fr sv kids (HS.out.still (Still.of_below (alloc_below _ _))) hbig).mono ?_
  rintro e w1 ⟨rfl, hb⟩
  have BX := (Box4.now w (.int .i64 k) (.string fr) (.int .i64 ix) sv ( /- t -/ 35)).below hb
  obtain ⟨c0, c1, c2, c3⟩ := BX.cells
  have hlt := BX.lt
  have hb2 := alloc_then hb
  clear BX hb
  cases hv : okN k fr ix kids with
  | false =>
    go_wp2_with fail
    go_ret
    refine ⟨?_, hb2⟩
    unfold peersN
    rw [hv]
    rfl
  | true =>
    have HV := hide hv
    have h2 := hv
    unfold okN at h2
    simp only [Bool.and_eq_true, decide_eq_true_eq] at h2
    have H2 := hide h2
    clear hv h2
    go_wp2_with fail
    refine (ro_all (kids.sz + 1) w1 k ix 0 0 40 fr sv kids (fun _ => false) (Nat.lt_succ_self _) (HS.out.still (Still.of_below hb2)) (by omega) H2.out.1).mono ?_
    rintro e w2 ⟨rfl, hb3⟩
    have hb4 := hb2.trans (hb3.mono hb2.size)
    clear hb3
    go_wp2_with fail
    go_ret
    refine ⟨?_, hb4⟩
    unfold peersN
    rw [HV.out, if_pos rfl]
    exact congrArg (fun x => Ending.returned (Value.string x)) (setS_congr fun c _ => Bool.false_or _)
end Go.Proofs.YtfppglfajbmapaaDoor.Lo
