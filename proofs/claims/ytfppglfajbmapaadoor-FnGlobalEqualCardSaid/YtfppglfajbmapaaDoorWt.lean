/- writeGlobal of the program. -/
import Derived.Test.YtfppglfajbmapaaDoorTx
import Derived.Test.YtfppglfajbmapaaDoorCg
import Derived.Test.YtfppglfajbmapaaDoorKp
import Derived.Test.YtfppglfajbmapaaDoorBl
import Derived.RegionTactic
namespace Go.Proofs.YtfppglfajbmapaaDoor
open Go.RowKit

def WrAt (n : Nat) : Prop := ∀ (w0 w : World) (B bb : Nat) (bs : List Value) (k ix b u d : Int) (fr to : ByteArray) (sv : Value) (kids : F), kids.sz < n → kids.sz ≤ 400 → Sl w0 sv kids → w0.heap.size ≤ B → Below w0.heap.size w0 w → B ≤ w.heap.size → 0 ≤ b → 0 ≤ u → b + d ≤ 40 →
  vldN k fr to ix kids b u d = true → Lib.IsBuilderF ( /- t -/ 83) ( /- t -/ 5) B bb bs w → bs.length + (txN k fr to ix kids).size ≤ 1048576 →
  Calls Tryd.prog 50 #[.pointer (some ⟨bb, 0, none⟩), .agg #[.int .i64 k, .string fr, .string to, .int .i64 ix, sv]] w
    fun e w' => e = .returned (.tuple #[]) ∧ Lib.IsBuilderF ( /- t -/ 83) ( /- t -/ 5) B bb (bs ++ Lib.strCells (txN k fr to ix kids)) w' ∧ Kp B bb w w'

set_option maxHeartbeats 400000 in
set_option maxRecDepth 100000 in
theorem wr_end (w0 w : World) (B bb : Nat) (bs : List Value) (ix : Int) (fr to : ByteArray) (sv : Value) (kids : F) (hs : Sl w0 sv kids) (hw : Below w0.heap.size w0 w) (hB : B ≤ w.heap.size)
    (hsh : shapeB 1 fr to ix kids = true) (hbu : Lib.IsBuilderF ( /- t -/ 83) ( /- t -/ 5) B bb bs w) (hlen : bs.length + (txN 1 fr to ix kids).size ≤ 1048576) :
    Calls Tryd.prog 50 #[.pointer (some ⟨bb, 0, none⟩), .agg #[.int .i64 1, .string fr, .string to, .int .i64 ix, sv]] w
      fun e w' => e = .returned (.tuple #[]) ∧ Lib.IsBuilderF ( /- t -/ 83) ( /- t -/ 5) B bb (bs ++ Lib.strCells (txN 1 fr to ix kids)) w' ∧ Kp B bb w w' := by
  have HS := hide (hs.still (Still.of_below hw))
  have HSH := hide hsh
  have HBU := hide hbu
  have HL := hide hlen
  clear hs hsh hbu hlen
  go_enter Tryd.func50, Tryd.ntmps50
  go_wp2_with fail
  have hk := shape_end HSH.out
  refine (node_end _ ix fr to sv kids (HS.out.still (Still.of_below (alloc_below _ _))) hk.1 hk.2.1 hk.2.2.1 hk.2.2.2).mono ?_
  rintro e w1 ⟨rfl, hb⟩
  have hb1 : Below w.heap.size w w1 := (alloc_below w _).trans (hb.mono (by simp))
  have hb2 := hb1.alloc hb1.size (.cells #[] ( /- t -/ 150))
  have h5 : 1 ≤ 1048576 - bs.length ∧ bs.length ≤ 1048576 := by
    have := HL.out
    have e1 : (txN 1 fr to ix kids).size = 1 := rfl
    omega
  clear hk hb
  have n1 := taEndEnd
  go_wp2_with fail
  refine (write_byte B bb bs 46 _ (bu_below HBU.out hb2) (by omega) (Nat.le_trans hB hb2.size)).mono ?_
  rintro e w2 ⟨rfl, hat, hb3, ho3⟩
  go_wp2_with fail
  go_end0
  exact ⟨rfl, Or.inr hat, ((Kp.refl B bb w).of_below hB hb2).trans ⟨hb3, ho3⟩⟩

set_option maxHeartbeats 400000 in
set_option maxRecDepth 100000 in
theorem wr_var (w0 w : World) (B bb : Nat) (bs : List Value) (ix : Int) (fr to : ByteArray) (sv : Value) (kids : F) (hs : Sl w0 sv kids) (hw : Below w0.heap.size w0 w) (hB : B ≤ w.heap.size) (hi0 : 0 ≤ ix) (hi1 : ix < 40)
    (hsh : shapeB 4 fr to ix kids = true) (hbu : Lib.IsBuilderF ( /- t -/ 83) ( /- t -/ 5) B bb bs w) (hlen : bs.length + (txN 4 fr to ix kids).size ≤ 1048576) :
    Calls Tryd.prog 50 #[.pointer (some ⟨bb, 0, none⟩), .agg #[.int .i64 4, .string fr, .string to, .int .i64 ix, sv]] w
      fun e w' => e = .returned (.tuple #[]) ∧ Lib.IsBuilderF ( /- t -/ 83) ( /- t -/ 5) B bb (bs ++ Lib.strCells (txN 4 fr to ix kids)) w' ∧ Kp B bb w w' := by
  obtain ⟨i, rfl⟩ := Int.eq_ofNat_of_zero_le hi0
  have h2 : (bdec i).size ≤ 2 := by
    have := decDigits_small (i := i) (by omega)
    simpa [bdec, ByteArray.size] using this
  have e1 : (⟨(Lib.decDigits i).toArray⟩ : ByteArray) = bdec i := rfl
  have HS := hide (hs.still (Still.of_below hw))
  have HSH := hide hsh
  have HBU := hide hbu
  have HL := hide hlen
  clear hs hsh hbu hlen
  go_enter Tryd.func50, Tryd.ntmps50
  go_wp2_with fail
  have hk := shape_var HSH.out
  refine (node_var _ i fr to sv kids (HS.out.still (Still.of_below (alloc_below _ _))) hk.1 hk.2.1 hk.2.2.1 hk.2.2.2).mono ?_
  rintro e w1 ⟨rfl, hb⟩
  have hb1 : Below w.heap.size w w1 := (alloc_below w _).trans (hb.mono (by simp))
  have hb2 := hb1.alloc hb1.size (.cells #[.int .i64 i] ( /- t -/ 161))
  have h5 : bs.length + (bhash ++ bdec i).size ≤ 1048576 := HL.out
  have H5 := hide h5
  clear hk hb h5
  have n1 := taVarEnd; have n2 := taVarMsg; have n3 := taVarRec; have n4 := taVarVar
  go_wp2_with fail
  refine (Tryd.strconv_Itoa_small i (by omega) _).mono ?_
  rintro e w3 ⟨rfl, rfl⟩
  rw [e1]
  go_wp2_with fail
  refine (write_string B bb bs (bhash ++ bdec i) _ (bu_below HBU.out hb2) (by have := H5.out; omega) (Nat.le_trans hB hb2.size)).mono ?_
  rintro e w2 ⟨rfl, hat, hb3, ho3⟩
  go_wp2_with fail
  go_end0
  exact ⟨rfl, Or.inr hat, ((Kp.refl B bb w).of_below hB hb2).trans ⟨hb3, ho3⟩⟩

set_option maxHeartbeats 800000 in
set_option maxRecDepth 100000 in
theorem wr_rec (n : Nat) (ih : WrAt n) (w0 w : World) (B bb : Nat) (bs : List Value) (ix b u d : Int) (fr to : ByteArray) (sv : Value) (kids : F) (hn : kids.sz < n + 1) (hbig : kids.sz ≤ 400) (hs : Sl w0 sv kids) (h0 : w0.heap.size ≤ B) (hw : Below w0.heap.size w0 w) (hB : B ≤ w.heap.size)
    (hb : 0 ≤ b) (hu : 0 ≤ u) (hbd : b + d ≤ 40) (hsh : shapeB 3 fr to ix kids = true) (hv : vldF kids (b + 1) (u + 1) (d - 1) = true) (hbu : Lib.IsBuilderF ( /- t -/ 83) ( /- t -/ 5) B bb bs w) (hlen : bs.length + (txN 3 fr to ix kids).size ≤ 1048576) :
    Calls Tryd.prog 50 #[.pointer (some ⟨bb, 0, none⟩), .agg #[.int .i64 3, .string fr, .string to, .int .i64 ix, sv]] w
      fun e w' => e = .returned (.tuple #[]) ∧ Lib.IsBuilderF ( /- t -/ 83) ( /- t -/ 5) B bb (bs ++ Lib.strCells (txN 3 fr to ix kids)) w' ∧ Kp B bb w w' := by
  obtain ⟨e1, e2, rfl, lab, k', fr', to', ix', kids', rfl, e3⟩ := shape_rec hsh
  have hvn : vldN k' fr' to' ix' kids' (b + 1) (u + 1) (d - 1) = true := by
    simp only [vldF, Bool.and_true] at hv
    exact hv
  have htx : txN 3 fr to 0 (.cons lab k' fr' to' ix' kids' .nil) = bat ++ txN k' fr' to' ix' kids' := rfl
  rw [htx] at hlen ⊢
  have hl2 : bs.length + 1 + (txN k' fr' to' ix' kids').size ≤ 1048576 := by
    rw [ByteArray.size_append] at hlen
    have e1 : bat.size = 1 := rfl
    omega
  obtain ⟨a, cap, rfl, -, hat⟩ := hs.at
  obtain ⟨b', o', rfl, -, -, -, -, -, d0, d1, d2, d3, d4, ⟨sv', d5, hsv⟩, -⟩ := hat.head
  have hb00 : Below w0.heap.size w0 (w.alloc (.cells #[.int .i64 3, .string fr, .string to, .int .i64 0, .slice (some ⟨b', o', none⟩) 1 cap] ( /- t -/ 25))) := hw.alloc hw.size _
  have hst := Still.of_below hb00
  simp only [Nat.zero_mul, Nat.add_zero] at d0 d1 d2 d3 d4 d5
  have d0 := hst _ _ d0; have d1 := hst _ _ d1; have d2 := hst _ _ d2; have d3 := hst _ _ d3; have d4 := hst _ _ d4; have d5 := hst _ _ d5
  obtain ⟨ka, kc, rfl, -, -⟩ := hsv.at
  have HSV := hide hsv
  have HV := hide hvn
  have HN := hide hn
  have HG := hide hbig
  have HL := hide hl2
  have HBU := hide hbu
  have HW := hide hw
  have HD := hide (And.intro d0 (And.intro d1 (And.intro d2 (And.intro d3 (And.intro d4 d5)))))
  clear hs hsh hat hn hbig hsv hv hvn hlen hl2 hbu hw hst hb00 htx d0 d1 d2 d3 d4 d5
  change Calls Tryd.prog 50 #[.pointer (some ⟨bb, 0, none⟩), .agg #[.int .i64 3, .string fr, .string to, .int .i64 0, .slice (some ⟨b', o', none⟩) 1 cap]] w _
  go_enter Tryd.func50, Tryd.ntmps50
  go_wp2_with fail
  refine (node_rec _ 0 fr to b' o' cap lab k' ix' fr' to' _ e1 e2 rfl e3 HD.out.1 HD.out.2.1 HD.out.2.2.1 HD.out.2.2.2.1 HD.out.2.2.2.2.1 HD.out.2.2.2.2.2).mono ?_
  rintro e w1 ⟨rfl, hb⟩
  have hb1 : Below w.heap.size w w1 := (alloc_below w _).trans (hb.mono (by simp))
  have hb2 := hb1.alloc hb1.size (.cells #[.int .i64 k', .string fr', .string to', .int .i64 ix', .slice ka kids'.len kc] ( /- t -/ 159))
  have hcl := alloc_last w1 #[.int .i64 k', .string fr', .string to', .int .i64 ix', .slice ka kids'.len kc] ( /- t -/ 159)
  clear hb
  have n1 := taRecEnd; have n2 := taRecMsg; have n3 := taRecRec
  go_wp2_with fail
  refine (write_byte B bb bs 64 _ (bu_below HBU.out hb2) (by have := HL.out; omega) (Nat.le_trans hB hb2.size)).mono ?_
  rintro e w2 ⟨rfl, hat, hb3, ho3⟩
  have kp := ((Kp.refl B bb w).of_below hB hb2).trans ⟨hb3, ho3⟩
  have hbw : bb < w.heap.size := by
    rcases HBU.out with h | h
    · exact h.lt
    · exact h.lt
  have hc2 := (Kp.mk hb3 ho3).cells hcl (by have := hb1.size; omega) (by decide)
  have hc0 := cell_of_heap (o := 0) hc2
  have hc1 := cell_of_heap (o := 1) hc2
  have hcc2 := cell_of_heap (o := 2) hc2
  have hc3 := cell_of_heap (o := 3) hc2
  have hc4 := cell_of_heap (o := 4) hc2
  simp only [List.getElem?_toArray, List.getElem?_cons_zero, List.getElem?_cons_succ] at hc0 hc1 hcc2 hc3 hc4
  have hlt2 : w1.heap.size < w2.heap.size := World.block_lt_of_cell? _ _ hc0
  have HAT := hide hat
  have HKP := hide kp
  clear hc2 hcl hb3 ho3 hat kp hb2
  go_wp2_with fail
  refine (ih w0 w2 B bb (bs ++ [.int .u8 64]) k' ix' (b + 1) (u + 1) (d - 1) fr' to' _ kids' (by have := HN.out; simp only [F.sz] at this; omega) (by have := HG.out; simp only [F.sz] at this; omega) HSV.out h0 (HW.out.trans (HKP.out.below.mono h0)) (Nat.le_trans hB HKP.out.below.size) (by omega) (by omega) (by omega) HV.out (Or.inr HAT.out)
    (by have := HL.out; rw [List.length_append]; show bs.length + 1 + _ ≤ _; omega)).mono ?_
  rintro e w3 ⟨rfl, hat3, kp3⟩
  go_wp2_with fail
  go_end0
  refine ⟨rfl, ?_, HKP.out.trans kp3⟩
  rw [strCells_append]
  rw [List.append_assoc] at hat3
  exact hat3
end Go.Proofs.YtfppglfajbmapaaDoor
