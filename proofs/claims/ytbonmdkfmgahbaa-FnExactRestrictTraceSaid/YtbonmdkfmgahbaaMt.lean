/- markText of the laws. -/
import Derived.Test.YtbonmdkfmgahbaaRows
import Derived.Test.YtbonmdkfmgahbaaTree
import Derived.WalkKit
import Derived.WalkSpells
import Derived.WalkLawsBesides
namespace Go.Proofs.Ytbonmdkfmgahbaa
open Go.RowKit

/-- The last digit's byte. -/
def dgB (k : Nat) : UInt8 := UInt8.ofNat (48 + k % 10)
theorem dgB_toNat (k : Nat) : (dgB k).toNat = 48 + k % 10 := by
  unfold dgB
  rw [UInt8.toNat_ofNat']
  omega
theorem ba_cons (x : UInt8) (l : List UInt8) : ((⟨#[x]⟩ : ByteArray) ++ ⟨l.toArray⟩) = ⟨(x :: l).toArray⟩ := by
  apply ByteArray.ext
  simp
def mtLoop : Nat → Nat → List UInt8 → List UInt8
  | 0, _, acc => acc
  | n + 1, k, acc => if k = 0 then acc else mtLoop n (k / 10) (dgB k :: acc)
/-- The text of a mark. -/
def MT (k : Nat) : ByteArray := ⟨(109 :: mtLoop k k []).toArray⟩

/-- One byte in a box, made into a string. -/
theorem conv_one (w : World) (c : UInt8) (n : Int) (hn : n = (c.toNat : Int)) (cap : Nat) (a : Addr) (hc : w.cell? a = some (.int .u8 n)) :
    (convert ( /- t -/ 85) ( /- t -/ 9) (.slice (some a) 1 cap)).run Try.prog w = .ok (.string ⟨#[c]⟩) w := by
  have h := run_convert_bytes_back (P := Try.prog) w ( /- t -/ 85) ( /- t -/ 9) ( /- t -/ 5) a cap [c] Try.underlying85 Try.underlying5 Try.underlying9
  refine h (fun j hj => ?_)
  have hj0 : j = 0 := by simp at hj; exact hj
  subst hj0
  rw [hn] at hc
  exact hc

theorem mtLoop_done (acc : List UInt8) : ∀ n, mtLoop n 0 acc = acc
  | 0 => rfl
  | n + 1 => by simp [mtLoop]

set_option maxHeartbeats 800000 in
set_option maxRecDepth 100000 in
theorem mt_calls (k : Nat) (hk : 1 ≤ k) (hk2 : k ≤ 16777216) (w : World) : Calls Try.prog 34 #[.int .i64 (k : Int)] w fun e w' => e = .returned (.string (MT k)) ∧ Below w.heap.size w w' := by
  go_enter Try.func34, Try.ntmps34
  go_wp2_with fail
  go_loopw [0, 3] (fun kv ov wr => ∃ (kk n : Nat) (acc : List UInt8), kv = .int .i64 kk ∧ ov = .string ⟨acc.toArray⟩ ∧ kk ≤ n ∧ kk ≤ k ∧ acc.length + n ≤ k ∧ mtLoop n kk acc = mtLoop k k [] ∧ Below w.heap.size w wr) (fun kv _ _ => (intOf kv).toNat)
  case atStart => exact ⟨k, k, [], rfl, rfl, Nat.le_refl _, Nat.le_refl _, by simp, rfl, Below.refl _ _⟩
  case round =>
    obtain ⟨kk, n, acc, rfl, rfl, h1, h2, h3, h4, hb⟩ := hrel
    have H4 := hide h4
    clear h4
    by_cases hz : 0 < kk
    · have hcv : (convert ( /- t -/ 85) ( /- t -/ 9) (.slice (some ⟨wr.heap.size, 0, none⟩) 1 1)).run Try.prog (wr.alloc (.cells #[.int .u8 (48 + (kk : Int) % 10)] ( /- t -/ 5))) =
          .ok (.string ⟨#[dgB kk]⟩) (wr.alloc (.cells #[.int .u8 (48 + (kk : Int) % 10)] ( /- t -/ 5))) := by
        refine conv_one _ (dgB kk) (48 + (kk : Int) % 10) ?_ 1 _ ?_
        · rw [dgB_toNat]
          omega
        · go_simp
      go_wp2_with fail
      rw [ba_cons]
      cases n with
      | zero => omega
      | succ n =>
        refine ⟨⟨kk / 10, n, dgB kk :: acc, by go_num, rfl, by omega, by omega, by simp only [List.length_cons]; omega, ?_, hb.alloc hb.size _⟩, by simp [intOf]; omega⟩
        rw [← H4.out, mtLoop, if_neg (by omega)]
    · have h0 : kk = 0 := by omega
      subst h0
      go_wp2_with fail
      go_ret
      have := H4.out
      rw [mtLoop_done] at this
      refine ⟨?_, hb⟩
      show Ending.returned (.string (⟨#[109]⟩ ++ ⟨acc.toArray⟩)) = _
      unfold MT
      rw [← this, ba_cons]
theorem MT_size (k : Nat) (hk : k ≤ 16777216) : (MT k).size ≤ maxLen := by
  have h : ∀ n kk acc, (mtLoop n kk acc).length ≤ acc.length + n := by
    intro n
    induction n with
    | zero => intro kk acc; simp [mtLoop]
    | succ n ih =>
      intro kk acc
      unfold mtLoop
      split
      · omega
      · have := ih (kk / 10) (dgB kk :: acc)
        simp only [List.length_cons] at this
        omega
  have h2 := h k k []
  have h3 : (MT k).size = (mtLoop k k []).length + 1 := by
    unfold MT
    show (List.toArray (109 :: mtLoop k k [])).size = _
    simp
  rw [h3]
  unfold maxLen
  simp only [List.length_nil] at h2
  omega
end Go.Proofs.Ytbonmdkfmgahbaa
