/- FormatTrace of the program. -/
import Derived.Test.YtodhgpjcklhboaaAf
import Derived.Test.YtodhgpjcklhboaaBw
import Derived.Test.YtodhgpjcklhboaaKp
namespace Go.Proofs.Ytodhgpjcklhboaa.Lo.Ne
open Go.RowKit

theorem strCells_app (a b : ByteArray) : Lib.strCells (a ++ b) = Lib.strCells a ++ Lib.strCells b := by
  simp [Lib.strCells, ByteArray.data_append]

theorem impl_mark (rc : Bool) (w : World) : Calls Try.prog 62 #[.bool rc] w fun e w' => e = .returned (.string (markB rc)) ∧ w' = w := by
  cases rc
  all_goals
    go_enter Try.func62, Try.ntmps62
    go_wp2_with fail
    go_ret
    exact ⟨rfl, rfl⟩

set_option maxHeartbeats 800000 in
set_option maxRecDepth 100000 in
/-- FormatTrace of the program. -/
theorem implFmt (w : World) (v : Value) (l : List Act) (hs : SlG elA w v l) :
    Calls Try.prog 26 #[v] w fun e w' => e = .returned (.string (textT l)) ∧ Below w.heap.size w w' := by
  have HS := hide hs
  obtain ⟨a, cap, rfl, hlen, hat⟩ := hs.at
  have HA := hide hat
  unfold maxLen at hlen
  clear hs hat
  by_cases h24 : l.length ≤ 24
  case neg =>
    have hbig : (24 : Int) < l.length := by omega
    have hT : textT l = ⟨#[]⟩ := by unfold textT okT; rw [decide_eq_false h24, Bool.and_false]; rfl
    have HT := hide hT
    clear hT
    go_enter Try.func26, Try.ntmps26
    go_wp2_with fail
    go_ret
    exact ⟨by rw [HT.out]; rfl, Below.refl _ _⟩
  have hsm : ¬ ((24 : Int) < l.length) := by omega
  have H24 := hide h24
  clear h24
  have hbu : Lib.IsBuilderF ( /- t -/ 96) ( /- t -/ 5) w.heap.size w.heap.size [] (w.alloc (.cells #[.pointer none, .slice none 0 0] ( /- t -/ 96))) := Lib.IsBuilderF.of (Lib.fresh_isBuilder _ _ _)
  have HBU := hide hbu
  clear hbu
  go_enter Try.func26, Try.ntmps26
  go_wp2_with fail
  go_loopw [11] (fun iv wr => ∃ pre g, l = pre ++ g ∧ iv = .int .i64 (pre.length : Nat) ∧ AtG elA w a pre.length g ∧ pre.all okA = true ∧
    Lib.IsBuilderF ( /- t -/ 96) ( /- t -/ 5) w.heap.size w.heap.size (Lib.strCells (txT pre)) wr ∧ w.heap.size < wr.heap.size ∧ Below w.heap.size w wr) (fun iv _ => l.length - (intOf iv).toNat)
  case atStart => exact ⟨[], l, rfl, rfl, HA.out, rfl, HBU.out, by simp, alloc_below _ _⟩
  case round =>
    obtain ⟨pre, g, hle, rfl, hg, hall, hbu, hlt0, hb⟩ := hrel
    have HE := hide hle
    have HB := hide hb
    have HBW := hide hbu
    have HAL := hide hall
    clear hle hbu hall
    cases g with
    | nil =>
      have hge : l.length ≤ pre.length := by rw [HE.out, List.append_nil]; exact Nat.le_refl _
      have HT : Hid (textT l = txT pre) := by
        unfold Hid textT okT
        have h := H24.out
        rw [HE.out, List.append_nil] at h ⊢
        rw [HAL.out, decide_eq_true h]
        rfl
      clear hg hb
      go_wp2_with fail
      refine (string_any w.heap.size w.heap.size (txT pre) wr HBW.out (Nat.le_of_lt hlt0)).mono ?_
      rintro e w3 ⟨rfl, hb5⟩
      have hb6 := HB.out.trans hb5
      clear hb5
      go_wp2_with fail
      go_ret
      exact ⟨by rw [HT.out]; rfl, hb6⟩
    | cons n rest =>
      obtain ⟨r, rc, p, lb⟩ := n
      have hlt : pre.length < l.length := by rw [HE.out, List.length_append]; simp only [List.length_cons]; omega
      obtain ⟨b, o, rfl, l1, -, -, c0, c1, c2, c3⟩ := AtA.head (hg.still (Still.of_below hb))
      have HG := hide hg
      have hb1 := alloc_below wr (.cells #[.string r, .bool rc, .string p, .string lb] ( /- t -/ 91))
      have BX := Box4.now wr (.string r) (.bool rc) (.string p) (.string lb) ( /- t -/ 91)
      have HBX := hide BX
      have HB1 := hide hb1
      clear hg hb BX hb1
      go_wp2_with fail
      refine (implAct _ r p lb rc).mono ?_
      rintro e w1 ⟨rfl, hbw⟩
      have HX1 := hide (HBX.out.below hbw)
      have HB2 := hide (HB1.out.trans (hbw.mono HB1.out.size))
      have hz := HB2.out.size
      clear hbw
      cases ha : okA ⟨r, rc, p, lb⟩ with
      | false =>
        have H1 := hide ha
        go_wp2_with fail
        go_ret
        refine ⟨?_, HB.out.trans (HB2.out.mono (Nat.le_of_lt hlt0))⟩
        have : textT l = ⟨#[]⟩ := by
          unfold textT okT
          rw [HE.out]
          simp [H1.out]
        rw [this]
        rfl
      | true =>
        have H1 := hide ha
        obtain ⟨x0, x1, x2, x3⟩ := HX1.out.cells
        have xl := HX1.out.lt
        obtain ⟨z1, z2, z3⟩ := okA_sizes ha
        have z4 : (markB rc).size = 1 := markB_size rc
        have z0 : (txT pre).size = 5 * pre.length := txT_size HAL.out
        have zz : pre.length < 24 := by have := H24.out; omega
        have HZ := hide (And.intro z0 (And.intro z1 (And.intro z2 (And.intro z3 (And.intro z4 zz)))))
        have n1 : ∀ W : World, (Op.stringOp .add r (markB rc)).run Try.prog W = .ok (.string (r ++ markB rc)) W := fun W => run_string_add_sum W _ _ (by omega)
        have n2 : ∀ W : World, (Op.stringOp .add (r ++ markB rc) p).run Try.prog W = .ok (.string (r ++ markB rc ++ p)) W := fun W => run_string_add_sum W _ _ (by rw [ByteArray.size_append]; omega)
        have n3 : ∀ W : World, (Op.stringOp .add (r ++ markB rc ++ p) lb).run Try.prog W = .ok (.string (r ++ markB rc ++ p ++ lb)) W := fun W => run_string_add_sum W _ _ (by rw [ByteArray.size_append, ByteArray.size_append]; omega)
        have n4 : ∀ (d : UInt8) (W : World), (Op.stringOp .add (r ++ markB rc ++ p ++ lb) ⟨#[d]⟩).run Try.prog W = .ok (.string (r ++ markB rc ++ p ++ lb ++ ⟨#[d]⟩)) W := fun d W => run_string_add_sum W _ _ (by rw [ByteArray.size_append, ByteArray.size_append, ByteArray.size_append]; have : (ByteArray.mk #[d]).size = 1 := rfl; omega)
        clear ha z0 z1 z2 z3 z4 zz
        go_wp2_with fail
        go_still_tail 13, (by kernel_rfl)
        still_call (impl_mark rc _)
        repeat still_step
        refine wpStill_nil ?_
        change wpList _ _ _ _ _ w1.drew
        have hbu1 := bu_below HBW.out HB2.out
        have HBU1 : Hid (Lib.IsBuilderF ( /- t -/ 96) ( /- t -/ 5) w.heap.size w.heap.size (Lib.strCells (txT pre)) w1.drew) := hide (bu_below hbu1 (Below.refl w1.heap.size w1).drew)
        have HB3 := hide ((HB.out.trans (HB2.out.mono (Nat.le_of_lt hlt0))).drew)
        have hz2 : w.heap.size < w1.drew.heap.size := Nat.lt_of_lt_of_le hlt0 hz
        clear hbu1 x0 x1 x2 x3 xl hz
        generalize w1.drew = w2 at *
        go_wp2_with fail
        have ht : r ++ markB rc ++ p ++ lb ++ (⟨#[32]⟩ : ByteArray) = txA ⟨r, rc, p, lb⟩ := rfl
        rw [ht]
        have hl : (Lib.strCells (txT pre)).length + (txA ⟨r, rc, p, lb⟩).size ≤ 140737488355328 := by
          have h := HZ.out
          rw [Lib.strCells_length, txA_size H1.out]
          omega
        generalize hta : txA ⟨r, rc, p, lb⟩ = ta at hl ⊢
        have HTA := hide hta
        clear hta ht
        have hcall := write_string w.heap.size w.heap.size (Lib.strCells (txT pre)) ta w2 HBU1.out hl (Nat.le_of_lt hz2)
        refine hcall.mono ?_
        clear hcall hl
        rintro e w3 ⟨rfl, hat, hb3, ho3⟩
        have HAT := hide hat
        have HB4 := hide (HB3.out.trans hb3)
        have hz3 := hb3.size
        clear hat hb3 ho3
        go_wp2_with fail
        go_roundw
        case rel =>
          refine ⟨pre ++ [⟨r, rc, p, lb⟩], rest, by rw [HE.out]; simp, by simp, by simpa using HG.out.tail, by simp [HAL.out, H1.out], ?_, by omega, HB4.out⟩
          have e1 : Lib.strCells (txT (pre ++ [⟨r, rc, p, lb⟩])) = Lib.strCells (txT pre) ++ Lib.strCells ta := by
            rw [txT_app, ← strCells_app, ← HTA.out]
            congr 2
            exact ByteArray.append_empty
          rw [e1]
          exact Or.inr HAT.out
        case measure => simp [intOf]; omega
end Go.Proofs.Ytodhgpjcklhboaa.Lo.Ne
