/- szNetwork and what it is made of. -/
import Derived.Test.YtodhgpjcklhboaaRows
import Derived.Test.YtodhgpjcklhboaaLSz
import Derived.Test.YtodhgpjcklhboaaNr
namespace Go.Proofs.Ytodhgpjcklhboaa.Lo.Ne
open Go.RowKit

set_option maxHeartbeats 800000 in
theorem szL (l : List Nd) (w : World) (v : Value) (left : Int) (hs : SlG elL w v l) (hl0 : 0 ≤ left) (hl1 : left ≤ 1048576) :
    Calls Try.prog 47 #[v, .int .i64 left] w fun e w' => e = .returned (.int .i64 (left0 left (l.length + wtL l))) ∧ Below w.heap.size w w' := by
  obtain ⟨a, cap, rfl, hlen, hat⟩ := hs.at
  have HA := hide hat
  clear hs hat
  unfold maxLen at hlen
  go_enter Try.func47, Try.ntmps47
  go_wp2_with fail
  · have h1 : left - l.length < 0 := by assumption
    go_ret
    exact ⟨ret_int (by unfold left0; rw [if_pos (by omega)]), Below.refl _ _⟩
  · have h1 : 0 ≤ left - l.length := by assumption
    go_loopw [1, 5] (fun lv iv wr => ∃ (g : List Nd) (k : Nat) (m : Int), k + g.length = l.length ∧ lv = .int .i64 m ∧ iv = .int .i64 k ∧ 0 ≤ m ∧ m ≤ 1048576 ∧ left0 m (wtL g) = left0 left (l.length + wtL l) ∧ AtG elL w a k g ∧ Below w.heap.size w wr) (fun _ iv _ => l.length - (intOf iv).toNat)
    case atStart =>
      refine ⟨l, 0, left - l.length, by omega, rfl, rfl, by omega, by omega, ?_, HA.out, Below.refl _ _⟩
      unfold left0
      split <;> split <;> omega
    case round =>
      obtain ⟨g, k, m, hk, rfl, rfl, h2, h3, h4, h6, hb⟩ := hrel
      have H4 := hide h4
      clear h4
      cases g with
      | nil =>
        have H5 : Hid (k = l.length) := by unfold Hid; simpa using hk
        have hge : l.length ≤ k := Nat.le_of_eq H5.out.symm
        clear hk
        go_wp2_with fail
        go_ret
        refine ⟨ret_int ?_, hb⟩
        have := H4.out
        simp only [wtL] at this
        rw [← this]
        unfold left0
        rw [if_neg (by omega)]
        omega
      | cons n rest =>
        obtain ⟨kd, fr, ix, kids⟩ := n
        have HK : Hid (k + 1 + rest.length = l.length) := by unfold Hid; simp only [List.length_cons] at hk; omega
        have hlt : k < l.length := by have := HK.out; omega
        obtain ⟨b, o, rfl, l1, -, -, c0, c1, c2, sv, c3, hsv⟩ := AtL.head (h6.still (Still.of_below hb))
        have HSV := hide hsv
        have HRE := hide h6.tail
        clear hk h6 hsv
        go_wp2_with fail
        refine (sz_calls kids wr kd ix fr sv m HSV.out h2 h3 l1).mono ?_
        rintro e w1 ⟨rfl, hb1⟩
        obtain ⟨r, hr⟩ : ∃ r, r = left0 m (fr.size + (kids.len + kids.wt)) := ⟨_, rfl⟩
        have HR := hide hr
        rw [← hr]
        clear hr
        have hb2 : Below w.heap.size w w1 := hb.trans (hb1.mono hb.size)
        go_wp2_with fail
        · go_ret
          refine ⟨ret_int ?_, hb2⟩
          have := HR.out
          have h4 := H4.out
          simp only [wtL, Nd.wt] at h4
          rw [← h4]
          unfold left0 at *
          split at this <;> (try split) <;> omega
        · have h7 : 0 ≤ r := by assumption
          go_roundw
          case rel =>
            refine ⟨rest, k + 1, r, by have := HK.out; omega, rfl, by go_num, h7, ?_, ?_, HRE.out, hb2⟩
            · have := HR.out
              unfold left0 at this
              split at this <;> omega
            · have := HR.out
              have h4 := H4.out
              simp only [wtL, Nd.wt] at h4
              rw [← h4]
              unfold left0 at *
              split at this <;> (try split) <;> (try split) <;> omega
          case measure => simp [intOf]; omega

set_option maxHeartbeats 800000 in
theorem szS (l : List ByteArray) (w : World) (v : Value) (left : Int) (hs : SlG elS w v l) (hl0 : 0 ≤ left) (hl1 : left ≤ 1048576) :
    Calls Try.prog 48 #[v, .int .i64 left] w fun e w' => e = .returned (.int .i64 (left0 left (l.length + wtS l))) ∧ w' = w := by
  obtain ⟨a, cap, rfl, hlen, hat⟩ := hs.at
  have HA := hide hat
  clear hs hat
  unfold maxLen at hlen
  go_enter Try.func48, Try.ntmps48
  go_wp2_with fail
  · have h1 : left - l.length < 0 := by assumption
    go_ret
    exact ⟨ret_int (by unfold left0; rw [if_pos (by omega)]), rfl⟩
  · have h1 : 0 ≤ left - l.length := by assumption
    go_loopw [1, 5] (fun lv iv wr => ∃ (g : List ByteArray) (k : Nat) (m : Int), k + g.length = l.length ∧ lv = .int .i64 m ∧ iv = .int .i64 k ∧ 0 ≤ m ∧ m ≤ 1048576 ∧ left0 m (wtS g) = left0 left (l.length + wtS l) ∧ AtG elS w a k g ∧ wr = w) (fun _ iv _ => l.length - (intOf iv).toNat)
    case atStart =>
      refine ⟨l, 0, left - l.length, by omega, rfl, rfl, by omega, by omega, ?_, HA.out, rfl⟩
      unfold left0
      split <;> split <;> omega
    case round =>
      obtain ⟨g, k, m, hk, rfl, rfl, h2, h3, h4, h6, rfl⟩ := hrel
      have H4 := hide h4
      clear h4
      cases g with
      | nil =>
        have H5 : Hid (k = l.length) := by unfold Hid; simpa using hk
        have hge : l.length ≤ k := Nat.le_of_eq H5.out.symm
        clear hk
        go_wp2_with fail
        go_ret
        refine ⟨ret_int ?_, rfl⟩
        have := H4.out
        simp only [wtS] at this
        rw [← this]
        unfold left0
        rw [if_neg (by omega)]
        omega
      | cons s rest =>
        have HK : Hid (k + 1 + rest.length = l.length) := by unfold Hid; simp only [List.length_cons] at hk; omega
        have hlt : k < l.length := by have := HK.out; omega
        obtain ⟨b, o, rfl, l1, c0⟩ := AtS.head h6
        unfold maxLen at l1
        have HRE := hide h6.tail
        clear hk h6
        go_wp2_with fail
        · have h7 : m - s.size < 0 := by assumption
          go_ret
          refine ⟨ret_int ?_, rfl⟩
          have h4 := H4.out
          simp only [wtS] at h4
          rw [← h4]
          unfold left0 at *
          rw [if_pos (by omega)]
        · have h7 : 0 ≤ m - s.size := by assumption
          go_roundw
          case rel =>
            refine ⟨rest, k + 1, m - s.size, by have := HK.out; omega, rfl, by go_num, h7, by omega, ?_, HRE.out, by first | rfl | trivial⟩
            have h4 := H4.out
            simp only [wtS] at h4
            rw [← h4]
            unfold left0
            split <;> split <;> omega
          case measure => simp [intOf]; omega

set_option maxHeartbeats 800000 in
/-- szNetwork. -/
theorem szNet (w : World) (lv qv : Value) (l : List Nd) (q : List ByteArray) (left : Int) (hl : SlG elL w lv l) (hq : SlG elS w qv q) (hl0 : 0 ≤ left) (hl1 : left ≤ 1048576) :
    Calls Try.prog 18 #[.agg #[lv, qv], .int .i64 left] w fun e w' => e = .returned (.int .i64 (left0 left (l.length + wtL l + (q.length + wtS q)))) ∧ Below w.heap.size w w' := by
  obtain ⟨la, lc, rfl, -, -⟩ := hl.at
  obtain ⟨qa, qc, rfl, -, -⟩ := hq.at
  have hb0 := alloc_below w (.cells #[.slice la l.length lc, .slice qa q.length qc] ( /- t -/ 40))
  have HL := hide (hl.still (Still.of_below hb0))
  have HQ := hide (hq.still (Still.of_below hb0))
  clear hl hq
  go_enter Try.func18, Try.ntmps18
  go_wp2_with fail
  refine (szL l _ _ left HL.out hl0 hl1).mono ?_
  rintro e w1 ⟨rfl, hb⟩
  have hc1' := ((Box2.now w (.slice la l.length lc) (.slice qa q.length qc) ( /- t -/ 40)).below hb).cells.2
  have hlt : w.heap.size < w1.heap.size := World.block_lt_of_cell? _ _ hc1'
  have HQ1 := hide (HQ.out.still (Still.of_below hb))
  have hb2 := alloc_then hb
  obtain ⟨r, hr⟩ : ∃ r, r = left0 left (l.length + wtL l) := ⟨_, rfl⟩
  have HR := hide hr
  rw [← hr]
  clear hr hb hb0
  go_wp2_with fail
  · go_ret
    refine ⟨ret_int ?_, hb2⟩
    have := HR.out
    unfold left0 at *
    split at this <;> (try split) <;> omega
  · have h7 : 0 ≤ r := by assumption
    refine (szS q _ _ r HQ1.out h7 (by have := HR.out; unfold left0 at this; split at this <;> omega)).mono ?_
    rintro e w2 ⟨rfl, rfl⟩
    obtain ⟨r2, hr2⟩ : ∃ r2, r2 = left0 r (q.length + wtS q) := ⟨_, rfl⟩
    have HR2 := hide hr2
    rw [← hr2]
    clear hr2
    go_wp2_with fail
    all_goals
      go_ret
      refine ⟨ret_int ?_, hb2⟩
      have h1 := HR.out
      have h2 := HR2.out
      unfold left0 at *
      split at h1 <;> split at h2 <;> (try split) <;> omega
end Go.Proofs.Ytodhgpjcklhboaa.Lo.Ne
