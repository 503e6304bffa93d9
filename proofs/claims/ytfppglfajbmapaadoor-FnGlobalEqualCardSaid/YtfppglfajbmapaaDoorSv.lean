/- GlobalValid and GlobalNodes of the model. -/
import Derived.Test.YtfppglfajbmapaaDoorIs
import Derived.BigQuiet
import Derived.Deep.QuietTactic
namespace Go.Proofs.YtfppglfajbmapaaDoor
open Go.RowKit

set_option maxHeartbeats 400000 in
theorem sv_fields (w : World) (k ix : Int) (fr to : ByteArray) (sv : Value) :
    Calls Tryd.prog 204 #[.agg #[.int .i64 k, .string fr, .string to, .int .i64 ix, sv]] w fun e w' => e = .returned (.bool (fieldsB k fr to ix)) ∧ Below w.heap.size w w' := by
  go_enter Tryd.func204, Tryd.ntmps204
  go_wp2_with fail
  all_goals go_ret
  all_goals exact ⟨ret_bool (by simp [fieldsB, *]), alloc_below _ _⟩

theorem below_drewN {B : Nat} {a w : World} (h : Below B a w) (n : Nat) : Below B a (w.drewN n) := ⟨h.os, h.tape, h.output, h.size, h.block⟩

theorem specLab_q (s : ByteArray) (v : Bool) (h : labB s = v) (w : World) : Calls Tryd.prog 16 #[.string s] w fun e w' => e = .returned (.bool v) ∧ w' = w :=
  (specLab s w).mono fun _ _ ⟨h1, h2⟩ => ⟨by rw [h1, h], h2.symm⟩

/-- What a round of l1Branches knows. -/
def BrRel (W : World) (a : Option Addr) (f : F) (iv : Value) (wr : World) : Prop :=
  ∃ g k p, k + g.len = f.len ∧ iv = .int .i64 (k : Nat) ∧ ascB none f = ascB p g ∧ At W a k g ∧
    ((k = 0 ∧ p = none) ∨ ∃ q k' b o, k = k' + 1 ∧ p = some q ∧ a = some ⟨b, o, none⟩ ∧ W.cell? ⟨b, o + k' * 6, none⟩ = some (.string q)) ∧ Below W.heap.size W wr

set_option maxHeartbeats 800000 in
set_option maxRecDepth 100000 in
theorem sv_branches (w : World) (f : F) (k ix : Int) (fr to : ByteArray) (sv : Value) (hs : Sl w sv f) :
    Calls Tryd.prog 205 #[.agg #[.int .i64 k, .string fr, .string to, .int .i64 ix, sv]] w fun e w' => e = .returned (.bool (branchesB f)) ∧ Below w.heap.size w w' := by
  obtain ⟨a, cap, rfl, hlen, hat⟩ := hs.at
  have hb0 := alloc_below w (.cells #[.int .i64 k, .string fr, .string to, .int .i64 ix, .slice a f.len cap] ( /- t -/ 25))
  have HA := hide (hat.still (Still.of_below hb0))
  clear hs hat
  unfold maxLen at hlen
  go_enter Tryd.func205, Tryd.ntmps205
  go_wp2_with fail
  have hc4 : (w.alloc (.cells #[.int .i64 k, .string fr, .string to, .int .i64 ix, .slice a f.len cap] ( /- t -/ 25))).cell? ⟨w.heap.size, 4, none⟩ = some (.slice a f.len cap) := by go_simp
  have hsz : w.heap.size < (w.alloc (.cells #[.int .i64 k, .string fr, .string to, .int .i64 ix, .slice a f.len cap] ( /- t -/ 25))).heap.size := by simp
  generalize (w.alloc (.cells #[.int .i64 k, .string fr, .string to, .int .i64 ix, .slice a f.len cap] ( /- t -/ 25))) = W at *
  go_loopw [3] (fun iv wr => BrRel W a f iv wr) (fun iv _ => f.len - (intOf iv).toNat)
  case atStart => exact ⟨f, 0, none, by omega, rfl, rfl, HA.out, Or.inl ⟨rfl, rfl⟩, Below.refl _ _⟩
  case round =>
    obtain ⟨g, k, p, hk, rfl, hasc, hg, hp, hb⟩ := hrel
    have hd4 := (hb.cell (p := ⟨w.heap.size, 4, none⟩) hsz).trans hc4
    have HB := hide (hb0.trans (hb.mono (Nat.le_of_lt hsz)))
    have HP := hide hp
    have HS := hide hasc
    clear hp hasc hb0 hc4
    cases g with
    | nil =>
      have H5 : Hid (k = f.len) := by unfold Hid; simpa [F.len] using hk
      have hge : f.len ≤ k := Nat.le_of_eq H5.out.symm
      clear hk
      go_wp2_with fail
      all_goals go_ret
      · have h1 : (1 : Int) ≤ f.len := by assumption
        refine ⟨ret_bool ?_, HB.out⟩
        show decide ((f.len : Int) ≤ 3) = _
        unfold branchesB
        rw [HS.out, ascB, Bool.true_and]
        exact decide_eq_decide.2 (by omega)
      · have h1 : (f.len : Int) < 1 := by assumption
        refine ⟨ret_bool ?_, HB.out⟩
        unfold branchesB
        rw [HS.out, ascB, Bool.true_and]
        exact (decide_eq_false (by omega)).symm
    | cons lab kd fr' to' ix' kids rest =>
      have HK : Hid (k + 1 + rest.len = f.len) := by unfold Hid; simp only [F.len] at hk; omega
      have hlt : k < f.len := by have := HK.out; omega
      obtain ⟨b, o, rfl, l1, _, _, _, _, c0, _, _, _, _, _, _⟩ := (hg.still (Still.of_below hb)).head
      have HW : Hid (W.cell? ⟨b, o + k * 6, none⟩ = some (.string lab)) := by
        obtain ⟨b2, o2, e, _, _, _, _, _, c0', _⟩ := hg.head
        simp only [Option.some.injEq, Addr.mk.injEq, and_true] at e
        obtain ⟨rfl, rfl⟩ := e
        exact c0'
      have HG := hide hg
      clear hk hg
      cases hl : labB lab with
      | false =>
        have HL := hide hl
        clear hl
        go_wp2_with fail
        go_quiet ((go_at_call 16; exact Calls.quiet_of_same (specLab_q _ _ HL.out _)))
        go_wp2_with fail
        go_ret
        refine ⟨ret_bool ?_, below_drewN HB.out _⟩
        unfold branchesB
        rw [HS.out]
        cases p <;> simp [ascB, HL.out]
      | true =>
        have HL := hide hl
        clear hl
        rcases HP.out with ⟨hk0, rfl⟩ | ⟨q, k', b', o', rfl, rfl, e1, e2⟩
        · have hd0 : decide (0 < k) = false := by rw [hk0]; rfl
          have HK0 := hide hk0
          clear hk0
          go_wp2_with fail
          go_quiet ((go_at_call 16; exact Calls.quiet_of_same (specLab_q _ _ HL.out _)))
          go_wp2_with fail
          refine ⟨⟨rest, k + 1, some lab, by have := HK.out; omega, by go_num, ?_, HG.out.tail, Or.inr ⟨lab, k, b, o, rfl, rfl, rfl, HW.out⟩, below_drewN hb _⟩, by simp [intOf]; omega⟩
          rw [HS.out]
          simp [ascB, HL.out]
        · simp only [Option.some.injEq, Addr.mk.injEq, and_true] at e1
          obtain ⟨rfl, rfl⟩ := e1
          have d0 := (Still.of_below hb) _ _ e2
          clear e2
          cases hbl : Op.bytesLess q.toList lab.toList with
          | false =>
            go_wp2_with fail
            go_quiet ((go_at_call 16; exact Calls.quiet_of_same (specLab_q _ _ HL.out _)))
            go_wp2_with fail
            go_ret
            refine ⟨ret_bool ?_, below_drewN HB.out _⟩
            unfold branchesB
            rw [HS.out]
            simp [ascB, HL.out, hbl]
          | true =>
            go_wp2_with fail
            go_quiet ((go_at_call 16; exact Calls.quiet_of_same (specLab_q _ _ HL.out _)))
            go_wp2_with fail
            refine ⟨⟨rest, k' + 1 + 1, some lab, by have := HK.out; omega, by go_num, ?_, HG.out.tail, Or.inr ⟨lab, k' + 1, b, o, rfl, rfl, rfl, HW.out⟩, below_drewN hb _⟩, by simp [intOf]; omega⟩
            rw [HS.out]
            simp [ascB, HL.out, hbl]
end Go.Proofs.YtfppglfajbmapaaDoor
