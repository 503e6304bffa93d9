/- l2Format of the model. -/
import Derived.Test.YtfppglfajbmapaaDoorLSc
import Derived.Test.YtfppglfajbmapaaDoorLTx
import Derived.Test.YtfppglfajbmapaaDoorDc
import Derived.RegionTactic
namespace Go.Proofs.YtfppglfajbmapaaDoor.Lo
open Go.RowKit

def FmtAt (n : Nat) : Prop := ∀ (w : World) (k ix b u d : Int) (fr : ByteArray) (sv : Value) (kids : F), kids.sz < n → kids.sz ≤ 400 → Sl w sv kids → 0 ≤ b → 0 ≤ u → b + d ≤ 40 → vldN k fr ix kids b u d = true →
  Calls Tryd.prog 65 #[.agg #[.int .i64 k, .string fr, .int .i64 ix, sv]] w fun e w' => e = .returned (.string (txN k fr ix kids)) ∧ Below w.heap.size w w'

set_option maxHeartbeats 400000 in
set_option maxRecDepth 100000 in
theorem fmt_end (w : World) (ix : Int) (fr : ByteArray) (sv : Value) (kids : F) (hs : Sl w sv kids) :
    Calls Tryd.prog 65 #[.agg #[.int .i64 1, .string fr, .int .i64 ix, sv]] w fun e w' => e = .returned (.string (txN 1 fr ix kids)) ∧ Below w.heap.size w w' := by
  obtain ⟨a, cap, rfl, -, -⟩ := hs.at
  clear hs
  go_enter Tryd.func65, Tryd.ntmps65
  go_wp2_with fail
  go_ret
  exact ⟨rfl, alloc_below _ _⟩

set_option maxHeartbeats 400000 in
set_option maxRecDepth 100000 in
theorem fmt_var (w : World) (ix : Int) (fr : ByteArray) (sv : Value) (kids : F) (hs : Sl w sv kids) (h0 : 0 ≤ ix) (h1 : ix < 40) :
    Calls Tryd.prog 65 #[.agg #[.int .i64 5, .string fr, .int .i64 ix, sv]] w fun e w' => e = .returned (.string (txN 5 fr ix kids)) ∧ Below w.heap.size w w' := by
  obtain ⟨a, cap, rfl, -, -⟩ := hs.at
  obtain ⟨i, rfl⟩ := Int.eq_ofNat_of_zero_le h0
  have h2 : (bdec i).size ≤ 2 := by
    have := decDigits_small (i := i) (by omega)
    simpa [bdec, ByteArray.size] using this
  clear hs
  go_enter Tryd.func65, Tryd.ntmps65
  go_wp2_with fail
  refine (dec_calls i (by omega) _).mono ?_
  rintro e w1 ⟨rfl, hb⟩
  change (bdec i).size ≤ 2 at h2
  have e1 : (⟨(Lib.decDigits i).toArray⟩ : ByteArray) = bdec i := rfl
  rw [e1]
  go_wp2_with fail
  go_ret
  exact ⟨rfl, (alloc_below _ _).trans (hb.mono (by simp))⟩

set_option maxHeartbeats 800000 in
set_option maxRecDepth 100000 in
theorem fmt_rec (n : Nat) (ih : FmtAt n) (w : World) (ix b u d : Int) (fr : ByteArray) (sv : Value) (kids : F) (hn : kids.sz < n + 1) (hbig : kids.sz ≤ 400) (hs : Sl w sv kids) (hb : 0 ≤ b) (hu : 0 ≤ u) (hbd : b + d ≤ 40)
    (hsh : shapeB 4 fr ix kids = true) (hv : vldF kids (b + 1) (u + 1) (d - 1) = true) :
    Calls Tryd.prog 65 #[.agg #[.int .i64 4, .string fr, .int .i64 ix, sv]] w fun e w' => e = .returned (.string (txN 4 fr ix kids)) ∧ Below w.heap.size w w' := by
  obtain ⟨e1, rfl, lab, k', fr', ix', kids', rfl, e3⟩ := shape_rec hsh
  have hvn : vldN k' fr' ix' kids' (b + 1) (u + 1) (d - 1) = true := by
    simp only [vldF, Bool.and_true] at hv
    exact hv
  have hsz := txN_size (by omega) (by omega) (by omega) hvn
  have hsz2 : (txN k' fr' ix' kids').size ≤ 3000 := by simp only [F.sz] at hbig; omega
  obtain ⟨a, cap, rfl, -, hat⟩ := hs.at
  obtain ⟨b', o', rfl, -, -, -, -, d0, d1, d2, d3, ⟨sv', d4, hsv⟩, -⟩ := hat.head
  have hbw := World.block_lt_of_cell? _ _ d0
  simp only [Nat.zero_mul, Nat.add_zero] at d0 d1 d2 d3 d4
  have HSV := hide hsv
  have HV := hide hvn
  have HN := hide hn
  have HB := hide hbig
  clear hs hsh hat hn hbig e1 e3 hsv hv hvn hsz
  change Calls Tryd.prog 65 #[.agg #[.int .i64 4, .string fr, .int .i64 0, .slice (some ⟨b', o', none⟩) 1 cap]] w _
  go_enter Tryd.func65, Tryd.ntmps65
  go_wp2_with fail
  refine (ih _ k' ix' (b + 1) (u + 1) (d - 1) fr' _ kids' (by have := HN.out; simp only [F.sz] at this; omega) (by have := HB.out; simp only [F.sz] at this; omega) (HSV.out.still (Still.of_below (alloc_below _ _))) (by omega) (by omega) (by omega) HV.out).mono ?_
  rintro e w1 ⟨rfl, hb⟩
  go_wp2_with fail
  go_ret
  exact ⟨rfl, (alloc_below _ _).trans (hb.mono (by simp))⟩
end Go.Proofs.YtfppglfajbmapaaDoor.Lo
