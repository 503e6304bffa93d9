/- FormatGlobal of the program. -/
import Derived.Test.YtfppglfajbmapaaDoorWm
import Derived.Test.YtfppglfajbmapaaDoorCh
import Derived.Lib.UnsafeStr
namespace Go.Proofs.YtfppglfajbmapaaDoor
open Go.RowKit

theorem string_any (B b : Nat) (s : ByteArray) (w : World) (h : Lib.IsBuilderF ( /- t -/ 83) ( /- t -/ 5) B b (Lib.strCells s) w) (hBw : B ≤ w.heap.size) :
    Calls Tryd.prog 51 #[.pointer (some ⟨b, 0, none⟩)] w fun e w' => e = .returned (.string s) ∧ Below B w w' := by
  refine (Tryd.Builder_String_any_k B b s.data.toList w h hBw).mono ?_
  rintro e w' ⟨rfl, -, hb, -⟩
  exact ⟨rfl, hb⟩

set_option maxHeartbeats 400000 in
set_option maxRecDepth 100000 in
/-- FormatGlobal of the program. -/
theorem implFormat (w : World) (k ix : Int) (fr to : ByteArray) (sv : Value) (kids : F) (hs : Sl w sv kids) :
    Calls Tryd.prog 17 #[.agg #[.int .i64 k, .string fr, .string to, .int .i64 ix, sv]] w fun e w' => e = .returned (.string (textN k fr to ix kids)) ∧ Below w.heap.size w w' := by
  have HS := hide hs
  clear hs
  go_enter Tryd.func17, Tryd.ntmps17
  go_wp2_with fail
  refine (implValid _ k ix fr to sv kids (HS.out.still (Still.of_below (alloc_below _ _)))).mono ?_
  rintro e w1 ⟨rfl, hb⟩
  obtain ⟨c0, c1, c2, c3, c4, hlt, hb2⟩ := box5 hb
  clear hb
  cases hv : okN k fr to ix kids with
  | false =>
    go_wp2_with fail
    go_ret
    refine ⟨?_, hb2⟩
    unfold textN
    rw [hv]
    rfl
  | true =>
    have HV := hide hv
    have h2 := hv
    unfold okN at h2
    simp only [Bool.and_eq_true, decide_eq_true_eq] at h2
    have H2 := hide h2
    have hbu : Lib.IsBuilderF ( /- t -/ 83) ( /- t -/ 5) w1.heap.size w1.heap.size [] (w1.alloc (.cells #[.pointer none, .slice none 0 0] ( /- t -/ 83))) := Lib.IsBuilderF.of (Lib.fresh_isBuilder _ _ _)
    have HBU := hide hbu
    have hb3 := alloc_below w1 (.cells #[.pointer none, .slice none 0 0] ( /- t -/ 83))
    have hsz := txN_size (b := 0) (u := 0) (by omega) (by omega) (by omega) h2.1
    have HZ : Hid ((txN k fr to ix kids).size ≤ 1048576) := by unfold Hid; omega
    clear hv h2 hbu hsz
    go_wp2_with fail
    refine (wr_all (kids.sz + 1) w1 _ w1.heap.size w1.heap.size [] k ix 0 0 40 fr to sv kids (Nat.lt_succ_self _) (by have := H2.out.2; omega) (HS.out.still (Still.of_below hb2)) (Nat.le_refl _) hb3 hb3.size (by omega) (by omega) (by omega) H2.out.1 HBU.out (by have := HZ.out; simpa using this)).mono ?_
    rintro e w2 ⟨rfl, hat, kp⟩
    have hb4 := hb3.trans kp.below
    have HAT := hide hat
    clear kp hat hb3
    go_wp2_with fail
    refine (string_any w1.heap.size w1.heap.size (txN k fr to ix kids) w2 HAT.out hb4.size).mono ?_
    rintro e w3 ⟨rfl, hb5⟩
    have hb6 := hb2.trans ((hb4.trans hb5).mono hb2.size)
    clear hb4 hb5
    go_wp2_with fail
    go_ret
    refine ⟨?_, hb6⟩
    unfold textN
    rw [HV.out]
    rfl
end Go.Proofs.YtfppglfajbmapaaDoor
