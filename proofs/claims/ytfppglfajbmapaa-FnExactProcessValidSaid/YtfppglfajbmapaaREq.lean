/- eqProcess: two values that read alike are equal. -/
import Derived.Test.YtfppglfajbmapaaRows
import Derived.Test.YtfppglfajbmapaaRTree
import Derived.WalkKit
import Derived.WalkSpells
import Derived.WalkLawsBesides
import Derived.StillTailTactics
namespace Go.Proofs.Ytfppglfajbmapaa.Pc
open Go.RowKit

def EqS (f : F) : Prop := ∀ (w : World) (u v : Value), Sl w u f → Sl w v f → Calls Try.prog 47 #[u, v] w fun e w' => e = .returned (.bool true) ∧ Below w.heap.size w w'

set_option maxHeartbeats 400000 in
theorem eq_node (kids : F) (hk : EqS kids) (w : World) (k ix : Int) (fr to : ByteArray) (su sv : Value) (hu : Sl w su kids) (hv : Sl w sv kids) :
    Calls Try.prog 22 #[.agg #[.int .i64 k, .string fr, .string to, .int .i64 ix, su], .agg #[.int .i64 k, .string fr, .string to, .int .i64 ix, sv]] w
      fun e w' => e = .returned (.bool true) ∧ Below w.heap.size w w' := by
  have HU := hide hu
  have HV := hide hv
  clear hu hv
  go_enter Try.func22, Try.ntmps22
  go_wp2_with fail
  have hB := (alloc_below w (.cells #[.int .i64 k, .string fr, .string to, .int .i64 ix, su] ( /- t -/ 48))).alloc (by simp) (.cells #[.int .i64 k, .string fr, .string to, .int .i64 ix, sv] ( /- t -/ 48))
  refine (hk _ _ _ (HU.out.still (Still.of_below hB)) (HV.out.still (Still.of_below hB))).mono ?_
  rintro e w1 ⟨rfl, hb⟩
  have hb2 := hB.trans (hb.mono (by simp; omega))
  clear hB hb
  go_wp2_with fail
  go_ret
  exact ⟨rfl, hb2⟩

set_option maxHeartbeats 400000 in
theorem eq_branch (kids : F) (hk : EqS kids) (w : World) (lab : ByteArray) (k ix : Int) (fr to : ByteArray) (su sv : Value) (hu : Sl w su kids) (hv : Sl w sv kids) :
    Calls Try.prog 76 #[.agg #[.string lab, .int .i64 k, .string fr, .string to, .int .i64 ix, su], .agg #[.string lab, .int .i64 k, .string fr, .string to, .int .i64 ix, sv]] w
      fun e w' => e = .returned (.bool true) ∧ Below w.heap.size w w' := by
  have HU := hide hu
  have HV := hide hv
  clear hu hv
  go_enter Try.func76, Try.ntmps76
  go_wp2_with fail
  have hB := (alloc_below w (.cells #[.string lab, .int .i64 k, .string fr, .string to, .int .i64 ix, su] ( /- t -/ 92))).alloc (by simp) (.cells #[.string lab, .int .i64 k, .string fr, .string to, .int .i64 ix, sv] ( /- t -/ 92))
  refine (eq_node kids hk _ k ix fr to _ _ (HU.out.still (Still.of_below hB)) (HV.out.still (Still.of_below hB))).mono ?_
  rintro e w1 ⟨rfl, hb⟩
  have hb2 := hB.trans (hb.mono (by simp; omega))
  clear hB hb
  go_wp2_with fail
  go_ret
  exact ⟨rfl, hb2⟩

set_option maxHeartbeats 800000 in
set_option maxRecDepth 100000 in
theorem eq_slice_lt : ∀ (n : Nat) (f : F), f.sz < n → EqS f := by
  intro n
  induction n with
  | zero => intro f hf; omega
  | succ n ih => 
    intro f hf w u v hu hv
    obtain ⟨a, cap, rfl, hlen, hat⟩ := hu.at
    obtain ⟨a', cap', rfl, _, hat'⟩ := hv.at
    have HA := hide hat
    have HA' := hide hat'
    have HF := hide hf
    clear hu hv hat hat' hf
    unfold maxLen at hlen
    go_enter Try.func47, Try.ntmps47
    go_wp2_with fail
    go_loopw [5] (fun iv wr => ∃ (g : F) (k : Nat), k + g.len = f.len ∧ iv = .int .i64 k ∧ g.sz ≤ f.sz ∧ At w a k g ∧ At w a' k g ∧ Below w.heap.size w wr) (fun iv _ => f.len - (intOf iv).toNat)
    case atStart => exact ⟨f, 0, by omega, rfl, Nat.le_refl _, HA.out, HA'.out, Below.refl _ _⟩
    case round =>
      obtain ⟨g, k, hk, rfl, h5, h6, h7, hb⟩ := hrel
      cases g with
      | nil =>
        have H5 : Hid (k = f.len) := by unfold Hid; simpa [F.len] using hk
        have hge : f.len ≤ k := Nat.le_of_eq H5.out.symm
        clear hk
        go_wp2_with fail
        go_ret
        exact ⟨rfl, hb⟩
      | cons lab kd fr to ix kids rest =>
        have HK : Hid (k + 1 + rest.len = f.len) := by unfold Hid; simp only [F.len] at hk; omega
        have hlt : k < f.len := by have := HK.out; omega
        have hz : kids.sz < n ∧ rest.sz ≤ f.sz := by have := HF.out; simp only [F.sz] at h5; omega
        have HZ := hide hz
        obtain ⟨b, o, rfl, l1, l2, l3, _, _, c0, c1, c2, c3, c4, ⟨su, c5, hsu⟩, _⟩ := (h6.still (Still.of_below hb)).head
        obtain ⟨b', o', rfl, _, _, _, _, _, d0, d1, d2, d3, d4, ⟨sv, d5, hsv⟩, _⟩ := (h7.still (Still.of_below hb)).head
        have HSU := hide hsu
        have HSV := hide hsv
        have HRE := hide h6.tail
        have HRE' := hide h7.tail
        clear hk h5 h6 h7 hz hsu hsv
        go_wp2_with fail
        go_still_tail 8, (by kernel_rfl)
        change wpList _ _ _ _ _ wr.drew
        have hbd : Below w.heap.size w wr.drew := hb.drew
        have hst : Still wr wr.drew := fun _ _ h => h
        have HSU' := hide (HSU.out.still hst)
        have HSV' := hide (HSV.out.still hst)
        clear hst
        generalize wr.drew = w2 at *
        go_wp2_with fail
        refine (eq_branch kids (ih kids HZ.out.1) _ lab kd ix fr to su sv HSU'.out HSV'.out).mono ?_
        rintro e w1 ⟨rfl, hb1⟩
        have hb2 : Below w.heap.size w w1 := hbd.trans (hb1.mono hbd.size)
        go_wp2_with fail
        go_roundw
        case rel => exact ⟨rest, k + 1, by have := HK.out; omega, by go_num, HZ.out.2, HRE.out, HRE'.out, hb2⟩
        case measure => simp [intOf]; omega

/-- eqProcess at two values that read alike. -/
theorem eq_calls (kids : F) (w : World) (k ix : Int) (fr to : ByteArray) (su sv : Value) (hu : Sl w su kids) (hv : Sl w sv kids) :
    Calls Try.prog 22 #[.agg #[.int .i64 k, .string fr, .string to, .int .i64 ix, su], .agg #[.int .i64 k, .string fr, .string to, .int .i64 ix, sv]] w
      fun e w' => e = .returned (.bool true) ∧ Below w.heap.size w w' :=
  eq_node kids (eq_slice_lt _ kids (Nat.lt_succ_self _)) w k ix fr to su sv hu hv

end Go.Proofs.Ytfppglfajbmapaa.Pc
