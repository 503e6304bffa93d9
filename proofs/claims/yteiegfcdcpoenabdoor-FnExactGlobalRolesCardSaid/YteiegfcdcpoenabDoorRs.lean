/- l1Roles of the model. -/
import Derived.Test.YteiegfcdcpoenabDoorIn
import Derived.Test.YteiegfcdcpoenabDoorRt
import Derived.Test.YteiegfcdcpoenabDoorSc
import Derived.Deep.RegionHeld3
namespace Go.Proofs.YteiegfcdcpoenabDoor
open Go.RowKit

/-- Some node of the list names the letter. -/
def namFb (c : UInt8) : F → Bool
  | .nil => false
  | .cons _ k fr to _ kids rest => ((k == 2) && (hasB fr c || hasB to c)) || namFb c kids || namFb c rest
def namNb (c : UInt8) (k : Int) (fr to : ByteArray) (kids : F) : Bool := ((k == 2) && (hasB fr c || hasB to c)) || namFb c kids
theorem namFb_iff (c : UInt8) : ∀ f : F, namFb c f = true ↔ namF c f := by
  intro f
  induction f with
  | nil => simp [namFb, namF]
  | cons lab k fr to ix kids rest ihk ihr =>
    simp only [namFb, namF, Bool.or_eq_true, Bool.and_eq_true, beq_iff_eq, ihk, ihr, hasB_iff, or_assoc]
theorem namNb_iff (c : UInt8) (k : Int) (fr to : ByteArray) (kids : F) : namNb c k fr to kids = true ↔ namN c k fr to kids := by
  simp only [namNb, namN, Bool.or_eq_true, Bool.and_eq_true, beq_iff_eq, namFb_iff, hasB_iff]

theorem kids_valid {k : Int} {fr to : ByteArray} {ix : Int} {kids : F} {b u d : Int} (hu : 0 ≤ u) (h : vldN k fr to ix kids b u d = true) : ∃ b' u' d', 0 ≤ u' ∧ vldF kids b' u' d' = true := by
  unfold vldN at h
  obtain ⟨-, hsh, hk⟩ := node_kinds hu h
  rcases hk with rfl | ⟨-, -, -, rfl⟩ | ⟨-, h3⟩ | ⟨-, h3⟩
  · have := (shape_end hsh).2.2.2
    subst this
    exact ⟨0, 0, 0, Int.le_refl _, rfl⟩
  · exact ⟨0, 0, 0, Int.le_refl _, rfl⟩
  · exact ⟨_, _, _, by omega, h3⟩
  · exact ⟨_, _, _, Int.le_refl _, h3⟩

def RoAt (n : Nat) : Prop := ∀ (w : World) (k ix b u d : Int) (fr to : ByteArray) (sv : Value) (kids : F) (p : UInt8 → Bool), kids.sz < n → Sl w sv kids → 0 ≤ u → vldN k fr to ix kids b u d = true →
  Calls Tryd.prog 17 #[.string (setS p), .agg #[.int .i64 k, .string fr, .string to, .int .i64 ix, sv]] w fun e w' => e = .returned (.string (setS (fun c => p c || namNb c k fr to kids))) ∧ Below w.heap.size w w'

set_option maxHeartbeats 1600000 in
set_option maxRecDepth 100000 in
theorem ro_none (n : Nat) (ih : RoAt n) (w : World) (k ix b u d : Int) (fr to : ByteArray) (sv : Value) (kids : F) (p : UInt8 → Bool) (hn : kids.sz < n + 1) (hs : Sl w sv kids) (hu : 0 ≤ u) (hv : vldN k fr to ix kids b u d = true) (hk2 : (k == 2) = false) :
    Calls Tryd.prog 17 #[.string (setS p), .agg #[.int .i64 k, .string fr, .string to, .int .i64 ix, sv]] w fun e w' => e = .returned (.string (setS (fun c => p c || namNb c k fr to kids))) ∧ Below w.heap.size w w' := by
  obtain ⟨b', u', d', hu0, hvk⟩ := kids_valid hu hv
  have HV := hide hvk
  obtain ⟨a, cap, rfl, hlen, hat⟩ := hs.at
  unfold maxLen at hlen
  have HA := hide hat
  have HN := hide hn
  have hb0 := alloc_below w (.cells #[.int .i64 k, .string fr, .string to, .int .i64 ix, .slice a kids.len cap] ( /- t -/ 29))
  have hbx := alloc_last w #[.int .i64 k, .string fr, .string to, .int .i64 ix, .slice a kids.len cap] ( /- t -/ 29)
  have HB0 := hide hb0
  clear hs hat hn hv hvk hb0
  go_enter Tryd.func17, Tryd.ntmps17
  go_wp2_with fail
  generalize (w.alloc (.cells #[.int .i64 k, .string fr, .string to, .int .i64 ix, .slice a kids.len cap] ( /- t -/ 29))) = W at *
  have c4 : W.cell? ⟨w.heap.size, 4, none⟩ = some (.slice a kids.len cap) := cell_of_heap (o := 4) hbx
  have hWl : w.heap.size < W.heap.size := World.block_lt_of_cell? _ _ c4
  clear hbx
  go_loopw [0, 5] (fun sv iv wr => ∃ (g : F) (j : Nat) (q : UInt8 → Bool), j + g.len = kids.len ∧ sv = .string (setS q) ∧ iv = .int .i64 j ∧ g.sz ≤ kids.sz ∧ At w a j g ∧ vldF g b' u' d' = true ∧ (∀ c, (q c || namFb c g) = (p c || namFb c kids)) ∧ wr.cell? ⟨w.heap.size, 4, none⟩ = some (.slice a kids.len cap) ∧ Below w.heap.size w wr) (fun _ iv _ => kids.len - (intOf iv).toNat)
  case atStart => exact ⟨kids, 0, _, by omega, rfl, rfl, Nat.le_refl _, HA.out, HV.out, fun _ => rfl, c4, HB0.out⟩
  case round =>
    obtain ⟨g, j, q, hk, rfl, rfl, h5, hg, hv, hq, hc4, hbw⟩ := hrel
    have HQ := hide hq
    have HB := hide hbw
    have HG := hide hg
    have HK := hide hk
    have H5 := hide h5
    clear hq h5
    cases g with
    | nil =>
      have hge : kids.len ≤ j := by simp only [F.len] at hk; omega
      clear hk hg hv hbw
      go_wp2_with fail
      go_ret
      refine ⟨?_, HB.out⟩
      refine congrArg (fun x => Ending.returned (Value.string x)) (setS_congr fun c _ => ?_)
      have := HQ.out c
      simp only [namFb, Bool.or_false] at this
      rw [this]
      simp only [namNb]
      rw [hk2, Bool.false_and, Bool.false_or]
    | cons lab kd fr' to' ix' kids' rest =>
      have hlt : j < kids.len := by simp only [F.len] at hk; omega
      obtain ⟨bb, o, rfl, _, _, _, _, _, q0, q1, q2, q3, q4, ⟨sv', q5, hsv⟩, _⟩ := (hg.still (Still.of_below hbw)).head
      have HS := hide hsv
      simp only [vldF, Bool.and_eq_true] at hv
      have HV2 := hide hv
      clear hk hg hv hsv
      go_wp2_with fail
      refine (ih wr kd ix' b' u' d' fr' to' sv' kids' q ?_ HS.out hu0 HV2.out.1).mono ?_
      · have h1 := HN.out
        have h2 := H5.out
        simp only [F.sz] at h2
        omega
      rintro e w3 ⟨rfl, hb5⟩
      have HB2 := hide (hbw.trans (hb5.mono hbw.size))
      have hc4' := (hb5.cell (p := ⟨w.heap.size, 4, none⟩) (World.block_lt_of_cell? _ _ hc4)).trans hc4
      clear hb5
      go_wp2_with fail
      refine ⟨⟨rest, j + 1, _, ?_, rfl, by go_num, ?_, HG.out.tail, HV2.out.2, fun c => ?_, hc4', HB2.out⟩, by simp [intOf]; omega⟩
      · have := HK.out
        simp only [F.len] at this
        omega
      · have := H5.out
        simp only [F.sz] at this
        omega
      · have h9 := HQ.out c
        simp only [namFb] at h9
        rw [← h9]
        simp only [namNb, Bool.or_assoc]

set_option maxHeartbeats 1600000 in
set_option maxRecDepth 100000 in
theorem ro_own (n : Nat) (ih : RoAt n) (w : World) (ix b u d : Int) (fr to : ByteArray) (sv : Value) (kids : F) (p : UInt8 → Bool) (hn : kids.sz < n + 1) (hs : Sl w sv kids) (hu : 0 ≤ u) (hv : vldN 2 fr to ix kids b u d = true) :
    Calls Tryd.prog 17 #[.string (setS p), .agg #[.int .i64 2, .string fr, .string to, .int .i64 ix, sv]] w fun e w' => e = .returned (.string (setS (fun c => p c || namNb c 2 fr to kids))) ∧ Below w.heap.size w w' := by
  obtain ⟨b', u', d', hu0, hvk⟩ := kids_valid hu hv
  have HV := hide hvk
  obtain ⟨a, cap, rfl, hlen, hat⟩ := hs.at
  unfold maxLen at hlen
  have HA := hide hat
  have HN := hide hn
  have hsh := (node_kinds hu (by unfold vldN at hv; exact hv)).2.1
  obtain ⟨e1, e2, -, -, -⟩ := shape_msg hsh
  obtain ⟨hf1, hf2, hf3⟩ := role_one e1
  obtain ⟨ht1, ht2, ht3⟩ := role_one e2
  have hb0 := alloc_below w (.cells #[.int .i64 2, .string fr, .string to, .int .i64 ix, .slice a kids.len cap] ( /- t -/ 29))
  have hbx := alloc_last w #[.int .i64 2, .string fr, .string to, .int .i64 ix, .slice a kids.len cap] ( /- t -/ 29)
  have HB0 := hide hb0
  have HF2 := hide hf2
  have HF3 := hide hf3
  have HT2 := hide ht2
  have HT3 := hide ht3
  clear hs hat hn hv hvk hb0 hf2 hf3 ht2 ht3 hsh e1 e2
  obtain ⟨s0, hs0⟩ : ∃ s0, s0 = setS p := ⟨_, rfl⟩
  obtain ⟨s1, hs1⟩ : ∃ s1, s1 = setS (fun x => x == fr[0] || p x) := ⟨_, rfl⟩
  obtain ⟨s2, hs2⟩ : ∃ s2, s2 = setS (fun x => x == to[0] || (x == fr[0] || p x)) := ⟨_, rfl⟩
  have i1 : ∀ W : World, Calls Tryd.prog 33 #[.string s0, .int .u8 (fr[0].toNat : Int)] W fun e w' => e = .returned (.string s1) ∧ Below W.heap.size W w' := fun W => by rw [hs0, hs1]; exact ins_set p fr[0] HF2.out W
  have i2 : ∀ W : World, Calls Tryd.prog 33 #[.string s1, .int .u8 (to[0].toNat : Int)] W fun e w' => e = .returned (.string s2) ∧ Below W.heap.size W w' := fun W => by rw [hs1, hs2]; exact ins_set _ to[0] HT2.out W
  rw [← hs0]
  have I1 := hide i1
  have I2 := hide i2
  have HS2 := hide hs2
  clear i1 i2 hs0 hs1 hs2
  go_enter Tryd.func17, Tryd.ntmps17
  go_wp2_with fail
  generalize (w.alloc (.cells #[.int .i64 2, .string fr, .string to, .int .i64 ix, .slice a kids.len cap] ( /- t -/ 29))) = W at *
  have c1 : W.cell? ⟨w.heap.size, 1, none⟩ = some (.string fr) := cell_of_heap (o := 1) hbx
  have c2 : W.cell? ⟨w.heap.size, 2, none⟩ = some (.string to) := cell_of_heap (o := 2) hbx
  have c4 : W.cell? ⟨w.heap.size, 4, none⟩ = some (.slice a kids.len cap) := cell_of_heap (o := 4) hbx
  have hWl : w.heap.size < W.heap.size := World.block_lt_of_cell? _ _ c4
  clear hbx
  go_region_held3 (fun w' => w'.cell? ⟨w.heap.size, 1, none⟩ = some (.string fr) ∧ w'.cell? ⟨w.heap.size, 2, none⟩ = some (.string to))
    (first | exact ⟨c1, c2⟩ | exact ⟨g1, g2⟩ | exact ⟨l1, l2⟩)
    ((first
      | (have hb6' := hb6; go_at_call 33; refine (I2.out _).mono ?_; rintro e w6 ⟨rfl, hb7⟩; have hst2 := hst.trans (Still.of_below hb7); have l1 := hst2 _ _ c1; have l2 := hst2 _ _ c2)
      | (go_at_call 33; refine (I1.out _).mono ?_; rintro e w5 ⟨rfl, hb6⟩; have hst := Still.of_below hb6; have g1 := hst _ _ c1; have g2 := hst _ _ c2)))
  all_goals
    have hbS : Below W.heap.size W w6 := (Below.refl W.heap.size W).drew.trans (hb6.trans (hb7.mono hb6.size))
    have d4 : w6.cell? ⟨w.heap.size, 4, none⟩ = some (.slice a kids.len cap) := (hbS.cell (p := ⟨w.heap.size, 4, none⟩) hWl).trans c4
    have HBS := hide (HB0.out.trans (hbS.mono HB0.out.size))
    clear hbS hb6 hb7 hb6' hst hst2 g1 g2 l1 l2 c1 c2 c4
    go_wp2_with fail
    go_loopw [0, 5] (fun sv iv wr => ∃ (g : F) (j : Nat) (q : UInt8 → Bool), j + g.len = kids.len ∧ sv = .string (setS q) ∧ iv = .int .i64 j ∧ g.sz ≤ kids.sz ∧ At w a j g ∧ vldF g b' u' d' = true ∧ (∀ c, (q c || namFb c g) = ((c == to[0] || (c == fr[0] || p c)) || namFb c kids)) ∧ wr.cell? ⟨w.heap.size, 4, none⟩ = some (.slice a kids.len cap) ∧ Below w.heap.size w wr) (fun _ iv _ => kids.len - (intOf iv).toNat)
    case atStart => exact ⟨kids, 0, fun x => x == to[0] || (x == fr[0] || p x), by omega, by rw [HS2.out], rfl, Nat.le_refl _, HA.out, HV.out, fun _ => rfl, d4, HBS.out⟩
    case round =>
      obtain ⟨g, j, q, hk, rfl, rfl, h5, hg, hv, hq, hc4, hbw⟩ := hrel
      have HQ := hide hq
      have HB := hide hbw
      have HG := hide hg
      have HK := hide hk
      have H5 := hide h5
      clear hq h5
      cases g with
      | nil =>
        have hge : kids.len ≤ j := by simp only [F.len] at hk; omega
        clear hk hg hv hbw
        go_wp2_with fail
        go_ret
        refine ⟨?_, HB.out⟩
        refine congrArg (fun x => Ending.returned (Value.string x)) (setS_congr fun c _ => ?_)
        have := HQ.out c
        simp only [namFb, Bool.or_false] at this
        rw [this]
        simp only [namNb]
        rw [HF3.out c, HT3.out c]
        cases p c <;> cases (c == fr[0]) <;> cases (c == to[0]) <;> simp
      | cons lab kd fr' to' ix' kids' rest =>
        have hlt : j < kids.len := by simp only [F.len] at hk; omega
        obtain ⟨bb, o, rfl, _, _, _, _, _, q0, q1, q2, q3, q4, ⟨sv', q5, hsv⟩, _⟩ := (hg.still (Still.of_below hbw)).head
        have HS := hide hsv
        simp only [vldF, Bool.and_eq_true] at hv
        have HV2 := hide hv
        clear hk hg hv hsv
        go_wp2_with fail
        refine (ih wr kd ix' b' u' d' fr' to' sv' kids' q ?_ HS.out hu0 HV2.out.1).mono ?_
        · have h1 := HN.out
          have h2 := H5.out
          simp only [F.sz] at h2
          omega
        rintro e w3 ⟨rfl, hb5⟩
        have HB2 := hide (hbw.trans (hb5.mono hbw.size))
        have hc4' := (hb5.cell (p := ⟨w.heap.size, 4, none⟩) (World.block_lt_of_cell? _ _ hc4)).trans hc4
        clear hb5
        go_wp2_with fail
        refine ⟨⟨rest, j + 1, _, ?_, rfl, by go_num, ?_, HG.out.tail, HV2.out.2, fun c => ?_, hc4', HB2.out⟩, by simp [intOf]; omega⟩
        · have := HK.out
          simp only [F.len] at this
          omega
        · have := H5.out
          simp only [F.sz] at this
          omega
        · have h9 := HQ.out c
          simp only [namFb] at h9
          rw [← h9]
          simp only [namNb, Bool.or_assoc]

theorem ro_all : ∀ n, RoAt n := by
  intro n
  induction n with
  | zero => intro w k ix b u d fr to sv kids p hn; omega
  | succ n ih =>
    intro w k ix b u d fr to sv kids p hn hs hu hv
    by_cases h2 : k = 2
    · subst h2
      exact ro_own n ih w ix b u d fr to sv kids p hn hs hu hv
    · exact ro_none n ih w k ix b u d fr to sv kids p hn hs hu hv (beq_eq_false_iff_ne.2 h2)


/-- The roles of a global type. -/
def rolesN (k : Int) (fr to : ByteArray) (ix : Int) (kids : F) : ByteArray := if okN k fr to ix kids then setS (fun c => namNb c k fr to kids) else ⟨#[]⟩
theorem rolesN_text (k : Int) (fr to : ByteArray) (ix : Int) (kids : F) : setS (hasB (textN k fr to ix kids)) = rolesN k fr to ix kids := by
  unfold rolesN textN
  cases h : okN k fr to ix kids with
  | false => rfl
  | true =>
    rw [if_pos rfl, if_pos rfl]
    unfold okN at h
    simp only [Bool.and_eq_true] at h
    refine setS_congr fun c hc => ?_
    have h1 : 65 ≤ c.toNat ∧ c.toNat ≤ 67 := by rcases hc with rfl | rfl | rfl <;> decide
    rw [Bool.eq_iff_iff, hasB_iff, namNb_iff]
    exact txN_letters h1.1 h1.2 (by omega) (by omega) (by omega) h.1

set_option maxHeartbeats 400000 in
set_option maxRecDepth 100000 in
/-- GlobalRoles of the model. -/
theorem specRoles (w : World) (k ix : Int) (fr to : ByteArray) (sv : Value) (kids : F) (hs : Sl w sv kids) (hbig : kids.sz ≤ 1048576) :
    Calls Tryd.prog 6 #[.agg #[.int .i64 k, .string fr, .string to, .int .i64 ix, sv]] w fun e w' => e = .returned (.string (rolesN k fr to ix kids)) ∧ Below w.heap.size w w' := by
  have HS := hide hs
  clear hs
  go_enter Tryd.func6, Tryd.ntmps6
  go_wp2_with fail
  refine (specValid _ k ix fr to sv kids (HS.out.still (Still.of_below (alloc_below _ _))) hbig).mono ?_
  rintro e w1 ⟨rfl, hb⟩
  obtain ⟨c0, c1, c2, c3, c4, hlt, hb2⟩ := box5 hb
  clear hb
  cases hv : okN k fr to ix kids with
  | false =>
    go_wp2_with fail
    go_ret
    refine ⟨?_, hb2⟩
    unfold rolesN
    rw [hv]
    rfl
  | true =>
    have HV := hide hv
    have h2 := hv
    unfold okN at h2
    simp only [Bool.and_eq_true, decide_eq_true_eq] at h2
    have H2 := hide h2
    clear hv h2
    go_wp2_with fail
    refine (ro_all (kids.sz + 1) w1 k ix 0 0 40 fr to sv kids (fun _ => false) (Nat.lt_succ_self _) (HS.out.still (Still.of_below hb2)) (by omega) H2.out.1).mono ?_
    rintro e w2 ⟨rfl, hb3⟩
    have hb4 := hb2.trans (hb3.mono hb2.size)
    clear hb3
    go_wp2_with fail
    go_ret
    refine ⟨?_, hb4⟩
    unfold rolesN
    rw [HV.out, if_pos rfl]
    exact congrArg (fun x => Ending.returned (Value.string x)) (setS_congr fun c _ => Bool.false_or _)
end Go.Proofs.YteiegfcdcpoenabDoor
