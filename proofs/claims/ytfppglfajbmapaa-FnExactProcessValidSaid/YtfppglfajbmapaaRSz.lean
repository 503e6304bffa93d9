/- szProcess. -/
import Derived.Test.YtfppglfajbmapaaRows
import Derived.Test.YtfppglfajbmapaaRTree
import Derived.WalkKit
import Derived.WalkSpells
import Derived.WalkLawsBesides
namespace Go.Proofs.Ytfppglfajbmapaa.Pc
open Go.RowKit

/-- The number that is left, or -1. -/
def left0 (l : Int) (n : Nat) : Int := if l < n then -1 else l - n

/-- What szProcessBranchS is for: a slice. -/
def SzS (f : F) : Prop := ∀ (w : World) (v : Value) (left : Int), Sl w v f → 0 ≤ left → left ≤ 1048576 →
  Calls Try.prog 42 #[v, .int .i64 left] w fun e w' => e = .returned (.int .i64 (left0 left (f.len + f.wt))) ∧ Below w.heap.size w w'

set_option maxHeartbeats 400000 in
theorem sz_node (kids : F) (hk : SzS kids) (w : World) (k ix : Int) (fr to : ByteArray) (sv : Value) (left : Int) (hs : Sl w sv kids) (hl0 : 0 ≤ left) (hl1 : left ≤ 1048576)
    (hfr : fr.size ≤ maxLen) (hto : to.size ≤ maxLen) :
    Calls Try.prog 18 #[.agg #[.int .i64 k, .string fr, .string to, .int .i64 ix, sv], .int .i64 left] w
      fun e w' => e = .returned (.int .i64 (left0 left (fr.size + (to.size + (kids.len + kids.wt))))) ∧ Below w.heap.size w w' := by
  unfold maxLen at hfr hto
  have HS := hide hs
  clear hs
  go_enter Try.func18, Try.ntmps18
  go_wp2_with fail
  · go_ret
    exact ⟨ret_int (by unfold left0; rw [if_pos (by omega)]), alloc_below _ _⟩
  · go_ret
    exact ⟨ret_int (by unfold left0; rw [if_pos (by omega)]), alloc_below _ _⟩
  · have h1 : 0 ≤ left - fr.size - to.size := by assumption
    refine (hk _ _ _ (HS.out.still (Still.of_below (alloc_below _ _))) h1 (by omega)).mono ?_
    rintro e w1 ⟨rfl, hb⟩
    obtain ⟨r, hr⟩ : ∃ r, r = left0 (left - fr.size - to.size) (kids.len + kids.wt) := ⟨_, rfl⟩
    have HR := hide hr
    rw [← hr]
    clear hr
    go_wp2_with fail
    · go_ret
      refine ⟨ret_int ?_, alloc_then hb⟩
      have := HR.out
      unfold left0 at *
      split at this <;> (try split) <;> omega
    · go_ret
      refine ⟨ret_int ?_, alloc_then hb⟩
      have := HR.out
      unfold left0 at *
      split at this <;> (try split) <;> omega

set_option maxHeartbeats 400000 in
theorem sz_branch (kids : F) (hk : SzS kids) (w : World) (lab : ByteArray) (k ix : Int) (fr to : ByteArray) (sv : Value) (left : Int) (hs : Sl w sv kids) (hl0 : 0 ≤ left) (hl1 : left ≤ 1048576)
    (hlab : lab.size ≤ maxLen) (hfr : fr.size ≤ maxLen) (hto : to.size ≤ maxLen) :
    Calls Try.prog 72 #[.agg #[.string lab, .int .i64 k, .string fr, .string to, .int .i64 ix, sv], .int .i64 left] w
      fun e w' => e = .returned (.int .i64 (left0 left (lab.size + (fr.size + (to.size + (kids.len + kids.wt)))))) ∧ Below w.heap.size w w' := by
  have HS := hide hs
  have h2 := hide hfr
  have h3 := hide hto
  clear hs hfr hto
  unfold maxLen at hlab
  go_enter Try.func72, Try.ntmps72
  go_wp2_with fail
  · go_ret
    exact ⟨ret_int (by unfold left0; rw [if_pos (by omega)]), alloc_below _ _⟩
  · have h1 : 0 ≤ left - lab.size := by assumption
    refine (sz_node kids hk _ k ix fr to sv _ (HS.out.still (Still.of_below (alloc_below _ _))) h1 (by omega) h2.out h3.out).mono ?_
    rintro e w1 ⟨rfl, hb⟩
    obtain ⟨r, hr⟩ : ∃ r, r = left0 (left - lab.size) (fr.size + (to.size + (kids.len + kids.wt))) := ⟨_, rfl⟩
    have HR := hide hr
    rw [← hr]
    clear hr
    go_wp2_with fail
    · go_ret
      refine ⟨ret_int ?_, alloc_then hb⟩
      have := HR.out
      unfold left0 at *
      split at this <;> (try split) <;> omega
    · go_ret
      refine ⟨ret_int ?_, alloc_then hb⟩
      have := HR.out
      unfold left0 at *
      split at this <;> (try split) <;> omega

set_option maxHeartbeats 800000 in
theorem sz_slice_lt : ∀ (n : Nat) (f : F), f.sz < n → SzS f := by
  intro n
  induction n with
  | zero => intro f hf; omega
  | succ n ih => 
    intro f hf w v left hs hl0 hl1
    obtain ⟨a, cap, rfl, hlen, hat⟩ := hs.at
    have HA := hide hat
    clear hs hat
    unfold maxLen at hlen
    go_enter Try.func42, Try.ntmps42
    go_wp2_with fail
    · have h1 : left - f.len < 0 := by assumption
      go_ret
      exact ⟨ret_int (by unfold left0; rw [if_pos (by omega)]), Below.refl _ _⟩
    · have h1 : 0 ≤ left - f.len := by assumption
      go_loopw [1, 5] (fun lv iv wr => ∃ (g : F) (k : Nat) (l : Int), k + g.len = f.len ∧ lv = .int .i64 l ∧ iv = .int .i64 k ∧ 0 ≤ l ∧ l ≤ 1048576 ∧ left0 l g.wt = left0 left (f.len + f.wt) ∧ g.sz ≤ f.sz ∧ At w a k g ∧ Below w.heap.size w wr) (fun _ iv _ => f.len - (intOf iv).toNat)
      case atStart => 
        refine ⟨f, 0, left - f.len, by omega, rfl, rfl, by omega, by omega, ?_, Nat.le_refl _, HA.out, Below.refl _ _⟩
        unfold left0
        split <;> split <;> omega
      case round =>
        obtain ⟨g, k, l, hk, rfl, rfl, h2, h3, h4, h5, h6, hb⟩ := hrel
        have H4 := hide h4
        clear h4
        cases g with
        | nil =>
          have H5 : Hid (k = f.len) := by unfold Hid; simpa [F.len] using hk
          have hge : f.len ≤ k := Nat.le_of_eq H5.out.symm
          clear hk
          go_wp2_with fail
          go_ret
          refine ⟨ret_int ?_, hb⟩
          have := H4.out
          simp only [F.wt] at this
          rw [← this]
          unfold left0
          rw [if_neg (by omega)]
          omega
        | cons lab kd fr to ix kids rest =>
          have HK : Hid (k + 1 + rest.len = f.len) := by unfold Hid; simp only [F.len] at hk; omega
          have hlt : k < f.len := by have := HK.out; omega
          have hz : kids.sz < n ∧ rest.sz ≤ f.sz := by simp only [F.sz] at h5; omega
          have HZ := hide hz
          obtain ⟨b, o, rfl, l1, l2, l3, _, _, c0, c1, c2, c3, c4, ⟨sv, c5, hsv⟩, _⟩ := (h6.still (Still.of_below hb)).head
          have HSV := hide hsv
          have HRE := hide h6.tail
          clear hk h5 h6 hz hsv
          go_wp2_with fail
          refine (sz_branch kids (ih kids HZ.out.1) _ lab kd ix fr to sv l HSV.out h2 h3 l1 l2 l3).mono ?_
          rintro e w1 ⟨rfl, hb1⟩
          obtain ⟨r, hr⟩ : ∃ r, r = left0 l (lab.size + (fr.size + (to.size + (kids.len + kids.wt)))) := ⟨_, rfl⟩
          have HR := hide hr
          rw [← hr]
          clear hr
          have hb2 : Below w.heap.size w w1 := hb.trans (hb1.mono hb.size)
          go_wp2_with fail
          · go_ret
            refine ⟨ret_int ?_, hb2⟩
            have := HR.out
            have h4 := H4.out
            simp only [F.wt] at h4
            rw [← h4]
            unfold left0 at *
            split at this <;> (try split) <;> omega
          · have h7 : 0 ≤ r := by assumption
            go_roundw
            case rel =>
              refine ⟨rest, k + 1, r, by have := HK.out; omega, rfl, by go_num, h7, ?_, ?_, HZ.out.2, HRE.out, hb2⟩
              · have := HR.out
                unfold left0 at this
                split at this <;> omega
              · have := HR.out
                have h4 := H4.out
                simp only [F.wt] at h4
                rw [← h4]
                unfold left0 at *
                split at this <;> (try split) <;> (try split) <;> omega
            case measure => simp [intOf]; omega

/-- szProcess. -/
theorem sz_calls (kids : F) (w : World) (k ix : Int) (fr to : ByteArray) (sv : Value) (left : Int) (hs : Sl w sv kids) (hl0 : 0 ≤ left) (hl1 : left ≤ 1048576)
    (hfr : fr.size ≤ maxLen) (hto : to.size ≤ maxLen) :
    Calls Try.prog 18 #[.agg #[.int .i64 k, .string fr, .string to, .int .i64 ix, sv], .int .i64 left] w
      fun e w' => e = .returned (.int .i64 (left0 left (fr.size + (to.size + (kids.len + kids.wt))))) ∧ Below w.heap.size w w' :=
  sz_node kids (sz_slice_lt _ kids (Nat.lt_succ_self _)) w k ix fr to sv left hs hl0 hl1 hfr hto

end Go.Proofs.Ytfppglfajbmapaa.Pc
