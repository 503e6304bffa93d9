/- LinkValid of the model. -/
import Derived.Test.YtmkjipnemapdeaaDoorKn
import Derived.Deep.RegionHeld3
namespace Go.Proofs.YtmkjipnemapdeaaDoor.Tk
open Go.RowKit

set_option maxHeartbeats 1600000 in
set_option maxRecDepth 100000 in
theorem slv1 (w : World) (ba ex : Int) (wi de : ByteArray) (ps : List Pkt) (ac : List Int) (pv av : Value) (hp : SlG elP w pv ps) (ha : SlG elI w av ac) (hwi : wi.size ≤ 1048576) (hde : de.size ≤ 1048576) (Lwi : labsB wi = false) :
    Calls Tryd.prog 7 #[.agg #[.int .i64 ba, .string wi, .int .i64 ex, .string de, pv, av]] w fun e w' => e = .returned (.bool false) ∧ Below w.heap.size w w' := by
  have HZ := hide (And.intro hwi hde)
  have HLwi := hide (fun (W : World) => (show Calls Tryd.prog 21 #[.string wi] W (fun e w' => e = .returned (.bool false) ∧ w' = W) by have := (specLabs wi W (by omega)).mono (fun e w' h => (show e = .returned (.bool (labsB wi)) ∧ w' = W from ⟨h.1, h.2.symm⟩)); rw [Lwi] at this; exact this))
  clear Lwi
  obtain ⟨pa, pc, rfl, -, -⟩ := hp.at
  obtain ⟨aa, ac', rfl, -, -⟩ := ha.at
  have hB := alloc_below w (.cells #[.int .i64 ba, .string wi, .int .i64 ex, .string de, .slice pa ps.length pc, .slice aa ac.length ac'] ( /- t -/ 30))
  have HX := hide (Box6.now w (.int .i64 ba) (.string wi) (.int .i64 ex) (.string de) (.slice pa ps.length pc) (.slice aa ac.length ac') ( /- t -/ 30))
  have HSP := hide (hp.still (Still.of_below hB))
  have HSA := hide (ha.still (Still.of_below hB))
  have HHB := hide hB
  clear hp ha hB
  go_enter Tryd.func7, Tryd.ntmps7
  go_wp2_with (first | (go_at_call 21; (with_reducible refine (HLwi.out _).mono ?_); rintro e wA ⟨rfl, rfl⟩) | fail)
  go_ret
  exact ⟨rfl, HHB.out⟩

set_option maxHeartbeats 1600000 in
set_option maxRecDepth 100000 in
theorem slv2 (w : World) (ba ex : Int) (wi de : ByteArray) (ps : List Pkt) (ac : List Int) (pv av : Value) (hp : SlG elP w pv ps) (ha : SlG elI w av ac) (hwi : wi.size ≤ 1048576) (hde : de.size ≤ 1048576) (Lwi : labsB wi = true) (Lde : labsB de = false) :
    Calls Tryd.prog 7 #[.agg #[.int .i64 ba, .string wi, .int .i64 ex, .string de, pv, av]] w fun e w' => e = .returned (.bool false) ∧ Below w.heap.size w w' := by
  have HZ := hide (And.intro hwi hde)
  have HLwi := hide (fun (W : World) => (show Calls Tryd.prog 21 #[.string wi] W (fun e w' => e = .returned (.bool true) ∧ w' = W) by have := (specLabs wi W (by omega)).mono (fun e w' h => (show e = .returned (.bool (labsB wi)) ∧ w' = W from ⟨h.1, h.2.symm⟩)); rw [Lwi] at this; exact this))
  have HLde := hide (fun (W : World) => (show Calls Tryd.prog 21 #[.string de] W (fun e w' => e = .returned (.bool false) ∧ w' = W) by have := (specLabs de W (by omega)).mono (fun e w' h => (show e = .returned (.bool (labsB de)) ∧ w' = W from ⟨h.1, h.2.symm⟩)); rw [Lde] at this; exact this))
  clear Lwi Lde
  obtain ⟨pa, pc, rfl, -, -⟩ := hp.at
  obtain ⟨aa, ac', rfl, -, -⟩ := ha.at
  have hB := alloc_below w (.cells #[.int .i64 ba, .string wi, .int .i64 ex, .string de, .slice pa ps.length pc, .slice aa ac.length ac'] ( /- t -/ 30))
  have HX := hide (Box6.now w (.int .i64 ba) (.string wi) (.int .i64 ex) (.string de) (.slice pa ps.length pc) (.slice aa ac.length ac') ( /- t -/ 30))
  have HSP := hide (hp.still (Still.of_below hB))
  have HSA := hide (ha.still (Still.of_below hB))
  have HHB := hide hB
  clear hp ha hB
  go_enter Tryd.func7, Tryd.ntmps7
  go_wp2_with (first | (go_at_call 21; (with_reducible refine (HLwi.out _).mono ?_); rintro e wA ⟨rfl, rfl⟩) | (go_at_call 21; (with_reducible refine (HLde.out _).mono ?_); rintro e wA ⟨rfl, rfl⟩) | fail)
  go_ret
  exact ⟨rfl, HHB.out⟩

set_option maxHeartbeats 1600000 in
set_option maxRecDepth 100000 in
theorem slv3 (w : World) (ba ex : Int) (wi de : ByteArray) (ps : List Pkt) (ac : List Int) (pv av : Value) (hp : SlG elP w pv ps) (ha : SlG elI w av ac) (hwi : wi.size ≤ 1048576) (hde : de.size ≤ 1048576) (Lwi : labsB wi = true) (Lde : labsB de = true) (h1 : 3 < wi.size) :
    Calls Tryd.prog 7 #[.agg #[.int .i64 ba, .string wi, .int .i64 ex, .string de, pv, av]] w fun e w' => e = .returned (.bool false) ∧ Below w.heap.size w w' := by
  have HZ := hide (And.intro hwi hde)
  have HLwi := hide (fun (W : World) => (show Calls Tryd.prog 21 #[.string wi] W (fun e w' => e = .returned (.bool true) ∧ w' = W) by have := (specLabs wi W (by omega)).mono (fun e w' h => (show e = .returned (.bool (labsB wi)) ∧ w' = W from ⟨h.1, h.2.symm⟩)); rw [Lwi] at this; exact this))
  have HLde := hide (fun (W : World) => (show Calls Tryd.prog 21 #[.string de] W (fun e w' => e = .returned (.bool true) ∧ w' = W) by have := (specLabs de W (by omega)).mono (fun e w' h => (show e = .returned (.bool (labsB de)) ∧ w' = W from ⟨h.1, h.2.symm⟩)); rw [Lde] at this; exact this))
  clear Lwi Lde
  obtain ⟨pa, pc, rfl, -, -⟩ := hp.at
  obtain ⟨aa, ac', rfl, -, -⟩ := ha.at
  have hB := alloc_below w (.cells #[.int .i64 ba, .string wi, .int .i64 ex, .string de, .slice pa ps.length pc, .slice aa ac.length ac'] ( /- t -/ 30))
  have HX := hide (Box6.now w (.int .i64 ba) (.string wi) (.int .i64 ex) (.string de) (.slice pa ps.length pc) (.slice aa ac.length ac') ( /- t -/ 30))
  have HSP := hide (hp.still (Still.of_below hB))
  have HSA := hide (ha.still (Still.of_below hB))
  have HHB := hide hB
  clear hp ha hB
  have d1 : decide ((3 : Int) < (wi.size : Int)) = true := decide_eq_true (by omega)
  go_enter Tryd.func7, Tryd.ntmps7
  go_wp2_with (first | (go_at_call 21; (with_reducible refine (HLwi.out _).mono ?_); rintro e wA ⟨rfl, rfl⟩) | (go_at_call 21; (with_reducible refine (HLde.out _).mono ?_); rintro e wA ⟨rfl, rfl⟩) | fail)
  go_ret
  exact ⟨rfl, HHB.out⟩

set_option maxHeartbeats 1600000 in
set_option maxRecDepth 100000 in
theorem slv4 (w : World) (ba ex : Int) (wi de : ByteArray) (ps : List Pkt) (ac : List Int) (pv av : Value) (hp : SlG elP w pv ps) (ha : SlG elI w av ac) (hwi : wi.size ≤ 1048576) (hde : de.size ≤ 1048576) (Lwi : labsB wi = true) (Lde : labsB de = true) (h1 : wi.size ≤ 3) (h2 : ex ≠ (de.size : Int)) :
    Calls Tryd.prog 7 #[.agg #[.int .i64 ba, .string wi, .int .i64 ex, .string de, pv, av]] w fun e w' => e = .returned (.bool false) ∧ Below w.heap.size w w' := by
  have HZ := hide (And.intro hwi hde)
  have HLwi := hide (fun (W : World) => (show Calls Tryd.prog 21 #[.string wi] W (fun e w' => e = .returned (.bool true) ∧ w' = W) by have := (specLabs wi W (by omega)).mono (fun e w' h => (show e = .returned (.bool (labsB wi)) ∧ w' = W from ⟨h.1, h.2.symm⟩)); rw [Lwi] at this; exact this))
  have HLde := hide (fun (W : World) => (show Calls Tryd.prog 21 #[.string de] W (fun e w' => e = .returned (.bool true) ∧ w' = W) by have := (specLabs de W (by omega)).mono (fun e w' h => (show e = .returned (.bool (labsB de)) ∧ w' = W from ⟨h.1, h.2.symm⟩)); rw [Lde] at this; exact this))
  clear Lwi Lde
  obtain ⟨pa, pc, rfl, -, -⟩ := hp.at
  obtain ⟨aa, ac', rfl, -, -⟩ := ha.at
  have hB := alloc_below w (.cells #[.int .i64 ba, .string wi, .int .i64 ex, .string de, .slice pa ps.length pc, .slice aa ac.length ac'] ( /- t -/ 30))
  have HX := hide (Box6.now w (.int .i64 ba) (.string wi) (.int .i64 ex) (.string de) (.slice pa ps.length pc) (.slice aa ac.length ac') ( /- t -/ 30))
  have HSP := hide (hp.still (Still.of_below hB))
  have HSA := hide (ha.still (Still.of_below hB))
  have HHB := hide hB
  clear hp ha hB
  have d1 : decide ((3 : Int) < (wi.size : Int)) = false := decide_eq_false (by omega)
  have h2' : (ex != (de.size : Int)) = true := bne_iff_ne.2 h2
  go_enter Tryd.func7, Tryd.ntmps7
  go_wp2_with (first | (go_at_call 21; (with_reducible refine (HLwi.out _).mono ?_); rintro e wA ⟨rfl, rfl⟩) | (go_at_call 21; (with_reducible refine (HLde.out _).mono ?_); rintro e wA ⟨rfl, rfl⟩) | fail)
  go_ret
  exact ⟨rfl, HHB.out⟩

set_option maxHeartbeats 1600000 in
set_option maxRecDepth 100000 in
theorem slv5 (w : World) (ba : Int) (wi de : ByteArray) (ps : List Pkt) (ac : List Int) (pv av : Value) (hp : SlG elP w pv ps) (ha : SlG elI w av ac) (hwi : wi.size ≤ 1048576) (hde : de.size ≤ 1048576) (Lwi : labsB wi = true) (Lde : labsB de = true) (h1 : wi.size ≤ 3) (h3 : ba < 0) :
    Calls Tryd.prog 7 #[.agg #[.int .i64 ba, .string wi, .int .i64 (de.size : Int), .string de, pv, av]] w fun e w' => e = .returned (.bool false) ∧ Below w.heap.size w w' := by
  have HZ := hide (And.intro hwi hde)
  have HLwi := hide (fun (W : World) => (show Calls Tryd.prog 21 #[.string wi] W (fun e w' => e = .returned (.bool true) ∧ w' = W) by have := (specLabs wi W (by omega)).mono (fun e w' h => (show e = .returned (.bool (labsB wi)) ∧ w' = W from ⟨h.1, h.2.symm⟩)); rw [Lwi] at this; exact this))
  have HLde := hide (fun (W : World) => (show Calls Tryd.prog 21 #[.string de] W (fun e w' => e = .returned (.bool true) ∧ w' = W) by have := (specLabs de W (by omega)).mono (fun e w' h => (show e = .returned (.bool (labsB de)) ∧ w' = W from ⟨h.1, h.2.symm⟩)); rw [Lde] at this; exact this))
  clear Lwi Lde
  obtain ⟨pa, pc, rfl, -, -⟩ := hp.at
  obtain ⟨aa, ac', rfl, -, -⟩ := ha.at
  have hB := alloc_below w (.cells #[.int .i64 ba, .string wi, .int .i64 (de.size : Int), .string de, .slice pa ps.length pc, .slice aa ac.length ac'] ( /- t -/ 30))
  have HX := hide (Box6.now w (.int .i64 ba) (.string wi) (.int .i64 (de.size : Int)) (.string de) (.slice pa ps.length pc) (.slice aa ac.length ac') ( /- t -/ 30))
  have HSP := hide (hp.still (Still.of_below hB))
  have HSA := hide (ha.still (Still.of_below hB))
  have HHB := hide hB
  clear hp ha hB
  have d1 : decide ((3 : Int) < (wi.size : Int)) = false := decide_eq_false (by omega)
  have d3 : decide (ba < 0) = true := decide_eq_true (by omega)
  go_enter Tryd.func7, Tryd.ntmps7
  go_wp2_with (first | (go_at_call 21; (with_reducible refine (HLwi.out _).mono ?_); rintro e wA ⟨rfl, rfl⟩) | (go_at_call 21; (with_reducible refine (HLde.out _).mono ?_); rintro e wA ⟨rfl, rfl⟩) | fail)
  go_ret
  exact ⟨rfl, HHB.out⟩

set_option maxHeartbeats 1600000 in
set_option maxRecDepth 100000 in
theorem slv6 (w : World) (ba : Int) (wi de : ByteArray) (ps : List Pkt) (ac : List Int) (pv av : Value) (hp : SlG elP w pv ps) (ha : SlG elI w av ac) (hwi : wi.size ≤ 1048576) (hde : de.size ≤ 1048576) (Lwi : labsB wi = true) (Lde : labsB de = true) (h1 : wi.size ≤ 3) (h3 : 0 ≤ ba) (h4 : (de.size : Int) < ba) :
    Calls Tryd.prog 7 #[.agg #[.int .i64 ba, .string wi, .int .i64 (de.size : Int), .string de, pv, av]] w fun e w' => e = .returned (.bool false) ∧ Below w.heap.size w w' := by
  have HZ := hide (And.intro hwi hde)
  have HLwi := hide (fun (W : World) => (show Calls Tryd.prog 21 #[.string wi] W (fun e w' => e = .returned (.bool true) ∧ w' = W) by have := (specLabs wi W (by omega)).mono (fun e w' h => (show e = .returned (.bool (labsB wi)) ∧ w' = W from ⟨h.1, h.2.symm⟩)); rw [Lwi] at this; exact this))
  have HLde := hide (fun (W : World) => (show Calls Tryd.prog 21 #[.string de] W (fun e w' => e = .returned (.bool true) ∧ w' = W) by have := (specLabs de W (by omega)).mono (fun e w' h => (show e = .returned (.bool (labsB de)) ∧ w' = W from ⟨h.1, h.2.symm⟩)); rw [Lde] at this; exact this))
  clear Lwi Lde
  obtain ⟨pa, pc, rfl, -, -⟩ := hp.at
  obtain ⟨aa, ac', rfl, -, -⟩ := ha.at
  have hB := alloc_below w (.cells #[.int .i64 ba, .string wi, .int .i64 (de.size : Int), .string de, .slice pa ps.length pc, .slice aa ac.length ac'] ( /- t -/ 30))
  have HX := hide (Box6.now w (.int .i64 ba) (.string wi) (.int .i64 (de.size : Int)) (.string de) (.slice pa ps.length pc) (.slice aa ac.length ac') ( /- t -/ 30))
  have HSP := hide (hp.still (Still.of_below hB))
  have HSA := hide (ha.still (Still.of_below hB))
  have HHB := hide hB
  clear hp ha hB
  have d1 : decide ((3 : Int) < (wi.size : Int)) = false := decide_eq_false (by omega)
  have d3 : decide (ba < 0) = false := decide_eq_false (by omega)
  have d4 : decide ((de.size : Int) < ba) = true := decide_eq_true (by omega)
  go_enter Tryd.func7, Tryd.ntmps7
  go_wp2_with (first | (go_at_call 21; (with_reducible refine (HLwi.out _).mono ?_); rintro e wA ⟨rfl, rfl⟩) | (go_at_call 21; (with_reducible refine (HLde.out _).mono ?_); rintro e wA ⟨rfl, rfl⟩) | fail)
  go_ret
  exact ⟨rfl, HHB.out⟩

set_option maxHeartbeats 1600000 in
set_option maxRecDepth 100000 in
theorem slv7 (w : World) (b : Nat) (wi de : ByteArray) (ps : List Pkt) (ac : List Int) (pv av : Value) (hp : SlG elP w pv ps) (ha : SlG elI w av ac) (hwi : wi.size ≤ 1048576) (hde : de.size ≤ 1048576) (Lwi : labsB wi = true) (Lde : labsB de = true) (h1 : wi.size ≤ 3) (h4 : b ≤ de.size) (h5 : b + wi.size < de.size) :
    Calls Tryd.prog 7 #[.agg #[.int .i64 (b : Int), .string wi, .int .i64 (de.size : Int), .string de, pv, av]] w fun e w' => e = .returned (.bool false) ∧ Below w.heap.size w w' := by
  have HZ := hide (And.intro hwi hde)
  have HLwi := hide (fun (W : World) => (show Calls Tryd.prog 21 #[.string wi] W (fun e w' => e = .returned (.bool true) ∧ w' = W) by have := (specLabs wi W (by omega)).mono (fun e w' h => (show e = .returned (.bool (labsB wi)) ∧ w' = W from ⟨h.1, h.2.symm⟩)); rw [Lwi] at this; exact this))
  have HLde := hide (fun (W : World) => (show Calls Tryd.prog 21 #[.string de] W (fun e w' => e = .returned (.bool true) ∧ w' = W) by have := (specLabs de W (by omega)).mono (fun e w' h => (show e = .returned (.bool (labsB de)) ∧ w' = W from ⟨h.1, h.2.symm⟩)); rw [Lde] at this; exact this))
  clear Lwi Lde
  obtain ⟨pa, pc, rfl, -, -⟩ := hp.at
  obtain ⟨aa, ac', rfl, -, -⟩ := ha.at
  have hB := alloc_below w (.cells #[.int .i64 (b : Int), .string wi, .int .i64 (de.size : Int), .string de, .slice pa ps.length pc, .slice aa ac.length ac'] ( /- t -/ 30))
  have HX := hide (Box6.now w (.int .i64 (b : Int)) (.string wi) (.int .i64 (de.size : Int)) (.string de) (.slice pa ps.length pc) (.slice aa ac.length ac') ( /- t -/ 30))
  have HSP := hide (hp.still (Still.of_below hB))
  have HSA := hide (ha.still (Still.of_below hB))
  have HHB := hide hB
  clear hp ha hB
  have d1 : decide ((3 : Int) < (wi.size : Int)) = false := decide_eq_false (by omega)
  have d3 : decide ((b : Int) < 0) = false := decide_eq_false (by omega)
  have d4 : decide ((de.size : Int) < (b : Int)) = false := decide_eq_false (by omega)
  have d4n : decide (de.size < b) = false := decide_eq_false (by omega)
  have d5 : decide ((b : Int) + (wi.size : Int) < (de.size : Int)) = true := decide_eq_true (by omega)
  go_enter Tryd.func7, Tryd.ntmps7
  go_wp2_with (first | (go_at_call 21; (with_reducible refine (HLwi.out _).mono ?_); rintro e wA ⟨rfl, rfl⟩) | (go_at_call 21; (with_reducible refine (HLde.out _).mono ?_); rintro e wA ⟨rfl, rfl⟩) | fail)
  go_ret
  exact ⟨rfl, HHB.out⟩

set_option maxHeartbeats 1600000 in
set_option maxRecDepth 100000 in
theorem slv8 (w : World) (b : Nat) (wi de : ByteArray) (ps : List Pkt) (ac : List Int) (pv av : Value) (hp : SlG elP w pv ps) (ha : SlG elI w av ac) (hwi : wi.size ≤ 1048576) (hde : de.size ≤ 1048576) (Lwi : labsB wi = true) (Lde : labsB de = true) (h1 : wi.size ≤ 3) (h4 : b ≤ de.size) (h5 : de.size ≤ b + wi.size) (h6 : 100 < b + wi.size) :
    Calls Tryd.prog 7 #[.agg #[.int .i64 (b : Int), .string wi, .int .i64 (de.size : Int), .string de, pv, av]] w fun e w' => e = .returned (.bool false) ∧ Below w.heap.size w w' := by
  have HZ := hide (And.intro hwi hde)
  have HLwi := hide (fun (W : World) => (show Calls Tryd.prog 21 #[.string wi] W (fun e w' => e = .returned (.bool true) ∧ w' = W) by have := (specLabs wi W (by omega)).mono (fun e w' h => (show e = .returned (.bool (labsB wi)) ∧ w' = W from ⟨h.1, h.2.symm⟩)); rw [Lwi] at this; exact this))
  have HLde := hide (fun (W : World) => (show Calls Tryd.prog 21 #[.string de] W (fun e w' => e = .returned (.bool true) ∧ w' = W) by have := (specLabs de W (by omega)).mono (fun e w' h => (show e = .returned (.bool (labsB de)) ∧ w' = W from ⟨h.1, h.2.symm⟩)); rw [Lde] at this; exact this))
  clear Lwi Lde
  obtain ⟨pa, pc, rfl, -, -⟩ := hp.at
  obtain ⟨aa, ac', rfl, -, -⟩ := ha.at
  have hB := alloc_below w (.cells #[.int .i64 (b : Int), .string wi, .int .i64 (de.size : Int), .string de, .slice pa ps.length pc, .slice aa ac.length ac'] ( /- t -/ 30))
  have HX := hide (Box6.now w (.int .i64 (b : Int)) (.string wi) (.int .i64 (de.size : Int)) (.string de) (.slice pa ps.length pc) (.slice aa ac.length ac') ( /- t -/ 30))
  have HSP := hide (hp.still (Still.of_below hB))
  have HSA := hide (ha.still (Still.of_below hB))
  have HHB := hide hB
  clear hp ha hB
  have d1 : decide ((3 : Int) < (wi.size : Int)) = false := decide_eq_false (by omega)
  have d3 : decide ((b : Int) < 0) = false := decide_eq_false (by omega)
  have d4 : decide ((de.size : Int) < (b : Int)) = false := decide_eq_false (by omega)
  have d4n : decide (de.size < b) = false := decide_eq_false (by omega)
  have d5 : decide ((b : Int) + (wi.size : Int) < (de.size : Int)) = false := decide_eq_false (by omega)
  have d6 : decide ((100 : Int) < (b : Int) + (wi.size : Int)) = true := decide_eq_true (by omega)
  go_enter Tryd.func7, Tryd.ntmps7
  go_wp2_with (first | (go_at_call 21; (with_reducible refine (HLwi.out _).mono ?_); rintro e wA ⟨rfl, rfl⟩) | (go_at_call 21; (with_reducible refine (HLde.out _).mono ?_); rintro e wA ⟨rfl, rfl⟩) | fail)
  go_ret
  exact ⟨rfl, HHB.out⟩

set_option maxHeartbeats 1600000 in
set_option maxRecDepth 100000 in
theorem slv9 (w : World) (b : Nat) (wi de : ByteArray) (ps : List Pkt) (ac : List Int) (pv av : Value) (hp : SlG elP w pv ps) (ha : SlG elI w av ac) (hwi : wi.size ≤ 1048576) (hde : de.size ≤ 1048576) (Lwi : labsB wi = true) (Lde : labsB de = true) (h1 : wi.size ≤ 3) (h4 : b ≤ de.size) (h5 : de.size ≤ b + wi.size) (h6 : b + wi.size ≤ 100) (hag : agreeB b (de.size - b) wi de = false) :
    Calls Tryd.prog 7 #[.agg #[.int .i64 (b : Int), .string wi, .int .i64 (de.size : Int), .string de, pv, av]] w fun e w' => e = .returned (.bool false) ∧ Below w.heap.size w w' := by
  have HZ := hide (And.intro hwi hde)
  have HLwi := hide (fun (W : World) => (show Calls Tryd.prog 21 #[.string wi] W (fun e w' => e = .returned (.bool true) ∧ w' = W) by have := (specLabs wi W (by omega)).mono (fun e w' h => (show e = .returned (.bool (labsB wi)) ∧ w' = W from ⟨h.1, h.2.symm⟩)); rw [Lwi] at this; exact this))
  have HLde := hide (fun (W : World) => (show Calls Tryd.prog 21 #[.string de] W (fun e w' => e = .returned (.bool true) ∧ w' = W) by have := (specLabs de W (by omega)).mono (fun e w' h => (show e = .returned (.bool (labsB de)) ∧ w' = W from ⟨h.1, h.2.symm⟩)); rw [Lde] at this; exact this))
  clear Lwi Lde
  obtain ⟨pa, pc, rfl, -, -⟩ := hp.at
  obtain ⟨aa, ac', rfl, -, -⟩ := ha.at
  have hB := alloc_below w (.cells #[.int .i64 (b : Int), .string wi, .int .i64 (de.size : Int), .string de, .slice pa ps.length pc, .slice aa ac.length ac'] ( /- t -/ 30))
  have HX := hide (Box6.now w (.int .i64 (b : Int)) (.string wi) (.int .i64 (de.size : Int)) (.string de) (.slice pa ps.length pc) (.slice aa ac.length ac') ( /- t -/ 30))
  have HSP := hide (hp.still (Still.of_below hB))
  have HSA := hide (ha.still (Still.of_below hB))
  have HHB := hide hB
  clear hp ha hB
  have d1 : decide ((3 : Int) < (wi.size : Int)) = false := decide_eq_false (by omega)
  have d3 : decide ((b : Int) < 0) = false := decide_eq_false (by omega)
  have d4 : decide ((de.size : Int) < (b : Int)) = false := decide_eq_false (by omega)
  have d4n : decide (de.size < b) = false := decide_eq_false (by omega)
  have d5 : decide ((b : Int) + (wi.size : Int) < (de.size : Int)) = false := decide_eq_false (by omega)
  have d6 : decide ((100 : Int) < (b : Int) + (wi.size : Int)) = false := decide_eq_false (by omega)
  obtain ⟨d, hd⟩ : ∃ d : Nat, d = de.size - b := ⟨_, rfl⟩
  have hd1 : (de.size : Int) - (b : Int) = (d : Int) := by omega
  have hd2 : d ≤ wi.size := by omega
  have hd3 : (d : Int) ≤ (wi.size : Int) := by omega
  have hw : IntKind.i64.wrap (d : Int) = (d : Int) := by rw [IntKind.wrap_i64]; omega
  have hb1 : (b : Int) ≤ (de.size : Int) := by omega
  rw [← hd] at hag
  clear hd
  unfold agreeB at hag
  go_enter Tryd.func7, Tryd.ntmps7
  go_wp2_with (first | (go_at_call 21; (with_reducible refine (HLwi.out _).mono ?_); rintro e wA ⟨rfl, rfl⟩) | (go_at_call 21; (with_reducible refine (HLde.out _).mono ?_); rintro e wA ⟨rfl, rfl⟩) | fail)
  generalize w.alloc (.cells #[.int .i64 (b : Int), .string wi, .int .i64 (de.size : Int), .string de, .slice pa ps.length pc, .slice aa ac.length ac'] ( /- t -/ 30)) = W at *
  obtain ⟨x0, x1, x2, x3, x4, x5⟩ := HX.out.cells
  have hxl := HX.out.lt
  go_quiet (fail)
  go_wp2_with fail
  go_ret
  exact ⟨rfl, ⟨HHB.out.os, HHB.out.tape, HHB.out.output, HHB.out.size, HHB.out.block⟩⟩

set_option maxHeartbeats 1600000 in
set_option maxRecDepth 100000 in
theorem slv10 (w : World) (b : Nat) (wi de : ByteArray) (ps : List Pkt) (ac : List Int) (pv av : Value) (hp : SlG elP w pv ps) (ha : SlG elI w av ac) (hwi : wi.size ≤ 1048576) (hde : de.size ≤ 1048576) (Lwi : labsB wi = true) (Lde : labsB de = true) (h1 : wi.size ≤ 3) (h4 : b ≤ de.size) (h5 : de.size ≤ b + wi.size) (h6 : b + wi.size ≤ 100) (hag : agreeB b (de.size - b) wi de = true) (hpk : (ps.all (pktB (de.extract 0 b ++ wi)) && decide (ps.length ≤ 6)) = false) :
    Calls Tryd.prog 7 #[.agg #[.int .i64 (b : Int), .string wi, .int .i64 (de.size : Int), .string de, pv, av]] w fun e w' => e = .returned (.bool false) ∧ Below w.heap.size w w' := by
  have HZ := hide (And.intro hwi hde)
  have HLwi := hide (fun (W : World) => (show Calls Tryd.prog 21 #[.string wi] W (fun e w' => e = .returned (.bool true) ∧ w' = W) by have := (specLabs wi W (by omega)).mono (fun e w' h => (show e = .returned (.bool (labsB wi)) ∧ w' = W from ⟨h.1, h.2.symm⟩)); rw [Lwi] at this; exact this))
  have HLde := hide (fun (W : World) => (show Calls Tryd.prog 21 #[.string de] W (fun e w' => e = .returned (.bool true) ∧ w' = W) by have := (specLabs de W (by omega)).mono (fun e w' h => (show e = .returned (.bool (labsB de)) ∧ w' = W from ⟨h.1, h.2.symm⟩)); rw [Lde] at this; exact this))
  clear Lwi Lde
  obtain ⟨pa, pc, rfl, -, -⟩ := hp.at
  obtain ⟨aa, ac', rfl, -, -⟩ := ha.at
  have hB := alloc_below w (.cells #[.int .i64 (b : Int), .string wi, .int .i64 (de.size : Int), .string de, .slice pa ps.length pc, .slice aa ac.length ac'] ( /- t -/ 30))
  have HX := hide (Box6.now w (.int .i64 (b : Int)) (.string wi) (.int .i64 (de.size : Int)) (.string de) (.slice pa ps.length pc) (.slice aa ac.length ac') ( /- t -/ 30))
  have HSP := hide (hp.still (Still.of_below hB))
  have HSA := hide (ha.still (Still.of_below hB))
  have HHB := hide hB
  clear hp ha hB
  have d1 : decide ((3 : Int) < (wi.size : Int)) = false := decide_eq_false (by omega)
  have d3 : decide ((b : Int) < 0) = false := decide_eq_false (by omega)
  have d4 : decide ((de.size : Int) < (b : Int)) = false := decide_eq_false (by omega)
  have d4n : decide (de.size < b) = false := decide_eq_false (by omega)
  have d5 : decide ((b : Int) + (wi.size : Int) < (de.size : Int)) = false := decide_eq_false (by omega)
  have d6 : decide ((100 : Int) < (b : Int) + (wi.size : Int)) = false := decide_eq_false (by omega)
  obtain ⟨d, hd⟩ : ∃ d : Nat, d = de.size - b := ⟨_, rfl⟩
  have hd1 : (de.size : Int) - (b : Int) = (d : Int) := by omega
  have hd2 : d ≤ wi.size := by omega
  have hd3 : (d : Int) ≤ (wi.size : Int) := by omega
  have hw : IntKind.i64.wrap (d : Int) = (d : Int) := by rw [IntKind.wrap_i64]; omega
  have hb1 : (b : Int) ≤ (de.size : Int) := by omega
  rw [← hd] at hag
  clear hd
  unfold agreeB at hag
  have HPK : Hid (∀ W : World, SlG elP W (.slice pa ps.length pc) ps → SlG elI W (.slice aa ac.length ac') ac → Calls Tryd.prog 22 #[.agg #[.int .i64 (b : Int), .string wi, .int .i64 (de.size : Int), .string de, .slice pa ps.length pc, .slice aa ac.length ac']] W (fun e w' => e = .returned (.bool false) ∧ Below W.heap.size W w')) := fun W hp ha => by have := specPackets W b (de.size : Int) wi de ps ac _ _ hp ha h4 hwi hde; rw [hpk] at this; exact this
  clear hpk
  go_enter Tryd.func7, Tryd.ntmps7
  go_wp2_with (first | (go_at_call 21; (with_reducible refine (HLwi.out _).mono ?_); rintro e wA ⟨rfl, rfl⟩) | (go_at_call 21; (with_reducible refine (HLde.out _).mono ?_); rintro e wA ⟨rfl, rfl⟩) | fail)
  generalize w.alloc (.cells #[.int .i64 (b : Int), .string wi, .int .i64 (de.size : Int), .string de, .slice pa ps.length pc, .slice aa ac.length ac'] ( /- t -/ 30)) = W at *
  have HX := hide HX.out.drew
  have HSP := hide (HSP.out.still (still_drew W))
  have HSA := hide (HSA.out.still (still_drew W))
  have HHB := hide HHB.out.drew
  obtain ⟨x0, x1, x2, x3, x4, x5⟩ := HX.out.cells
  have hxl := HX.out.lt
  refine wp_region_held_drew (S := (fun w' => w'.cell? ⟨w.heap.size, 0, none⟩ = some (.int .i64 (b : Int)) ∧ w'.cell? ⟨w.heap.size, 1, none⟩ = some (.string wi) ∧ w'.cell? ⟨w.heap.size, 2, none⟩ = some (.int .i64 (de.size : Int)) ∧ w'.cell? ⟨w.heap.size, 3, none⟩ = some (.string de) ∧ w'.cell? ⟨w.heap.size, 4, none⟩ = some (.slice pa ps.length pc) ∧ w'.cell? ⟨w.heap.size, 5, none⟩ = some (.slice aa ac.length ac'))) (by kernel_rfl) ?_ (fun hHeld => ?_)
  · exact ⟨x0, x1, x2, x3, x4, x5⟩
  refine wpAnyH_take (i := 0) (v := ?v0) rfl (by kernel_rfl) (by kernel_rfl) (by kernel_rfl) (fun _ _ _ h => h) (Or.inl ⟨by kernel_rfl, ?hy0⟩) (by assumption) ?rest0
  case hy0 => ((intro wS hSw); (try dsimp only at hSw); (go_simp); (try with_reducible rfl))
  change wpAnyH _ _ _ _ _ _ _ (Act.put _ (some 59) _) _
  (try simp only [Act.put]); (try simp only [List.setIfInBounds_toArray]); (try simp only [List.set_cons_zero]); (try simp only [List.set_cons_succ])
  refine wpAnyH_take (i := 1) (v := ?v1) rfl (by kernel_rfl) (by kernel_rfl) (by kernel_rfl) (fun _ _ _ h => h) (Or.inl ⟨by kernel_rfl, ?hy1⟩) (by assumption) ?rest1
  case hy1 => ((intro wS hSw); (try dsimp only at hSw); (go_simp); (try with_reducible rfl))
  change wpAnyH _ _ _ _ _ _ _ (Act.put _ (some 60) _) _
  (try simp only [Act.put]); (try simp only [List.setIfInBounds_toArray]); (try simp only [List.set_cons_zero]); (try simp only [List.set_cons_succ])
  refine wpAnyH_take (i := 2) (v := ?v2) rfl (by kernel_rfl) (by kernel_rfl) (by kernel_rfl) (fun _ _ _ h => h) (Or.inl ⟨by kernel_rfl, ?hy2⟩) (by assumption) ?rest2
  case hy2 => ((intro wS hSw); (try dsimp only at hSw); (go_simp); (try with_reducible rfl))
  change wpAnyH _ _ _ _ _ _ _ (Act.put _ (some 61) _) _
  (try simp only [Act.put]); (try simp only [List.setIfInBounds_toArray]); (try simp only [List.set_cons_zero]); (try simp only [List.set_cons_succ])
  refine wpAnyH_take (i := 3) (v := ?v3) rfl (by kernel_rfl) (by kernel_rfl) (by kernel_rfl) (fun _ _ _ h => h) (Or.inl ⟨by kernel_rfl, ?hy3⟩) (by assumption) ?rest3
  case hy3 => ((intro wS hSw); (try dsimp only at hSw); (go_simp); (try with_reducible rfl))
  change wpAnyH _ _ _ _ _ _ _ (Act.put _ (some 62) _) _
  (try simp only [Act.put]); (try simp only [List.setIfInBounds_toArray]); (try simp only [List.set_cons_zero]); (try simp only [List.set_cons_succ])
  refine wpAnyH_take (i := 4) (v := ?v4) rfl (by kernel_rfl) (by kernel_rfl) (by kernel_rfl) (fun _ _ _ h => h) (Or.inl ⟨by kernel_rfl, ?hy4⟩) (by assumption) ?rest4
  case hy4 => ((intro wS hSw); (try dsimp only at hSw); (go_simp); (try with_reducible rfl))
  change wpAnyH _ _ _ _ _ _ _ (Act.put _ (some 63) _) _
  (try simp only [Act.put]); (try simp only [List.setIfInBounds_toArray]); (try simp only [List.set_cons_zero]); (try simp only [List.set_cons_succ])
  refine wpAnyH_take (i := 5) (v := ?v5) rfl (by kernel_rfl) (by kernel_rfl) (by kernel_rfl) (fun _ _ _ h => h) (Or.inl ⟨by kernel_rfl, ?hy5⟩) (by assumption) ?rest5
  case hy5 => ((intro wS hSw); (try dsimp only at hSw); (go_simp); (try with_reducible rfl))
  change wpAnyH _ _ _ _ _ _ _ (Act.put _ (some 64) _) _
  (try simp only [Act.put]); (try simp only [List.setIfInBounds_toArray]); (try simp only [List.set_cons_zero]); (try simp only [List.set_cons_succ])
  refine wpAnyH_take (i := 6) (v := ?v6) rfl (by kernel_rfl) (by kernel_rfl) (by kernel_rfl) (fun _ _ _ h => h) (Or.inl ⟨by kernel_rfl, ?hy6⟩) (by assumption) ?rest6
  case hy6 => ((intro wS hSw); (try dsimp only at hSw); (go_simp); (try with_reducible rfl))
  change wpAnyH _ _ _ _ _ _ _ (Act.put _ (some 65) _) _
  (try simp only [Act.put]); (try simp only [List.setIfInBounds_toArray]); (try simp only [List.set_cons_zero]); (try simp only [List.set_cons_succ])
  refine wpAnyH_take (i := 7) (v := ?v7) rfl (by kernel_rfl) (by kernel_rfl) (by kernel_rfl) (fun _ _ _ h => h) (Or.inl ⟨by kernel_rfl, ?hy7⟩) (by assumption) ?rest7
  case hy7 => ((intro wS hSw); (try dsimp only at hSw); (go_simp); (try with_reducible rfl))
  change wpAnyH _ _ _ _ _ _ _ (Act.put _ (some 66) _) _
  (try simp only [Act.put]); (try simp only [List.setIfInBounds_toArray]); (try simp only [List.set_cons_zero]); (try simp only [List.set_cons_succ])
  refine wpAnyH_take (i := 8) (v := ?v8) rfl (by kernel_rfl) (by kernel_rfl) (by kernel_rfl) (fun _ _ _ h => h) (Or.inl ⟨by kernel_rfl, ?hy8⟩) (by assumption) ?rest8
  case hy8 => ((intro wS hSw); (try dsimp only at hSw); (go_simp); (try with_reducible rfl))
  change wpAnyH _ _ _ _ _ _ _ (Act.put _ (some 67) _) _
  (try simp only [Act.put]); (try simp only [List.setIfInBounds_toArray]); (try simp only [List.set_cons_zero]); (try simp only [List.set_cons_succ])
  refine wpAnyH_take (i := 9) (v := ?v9) rfl (by kernel_rfl) (by kernel_rfl) (by kernel_rfl) (fun _ _ _ h => h) (Or.inl ⟨by kernel_rfl, ?hy9⟩) (by assumption) ?rest9
  case hy9 => ((intro wS hSw); (try dsimp only at hSw); (go_simp); (try with_reducible rfl))
  change wpAnyH _ _ _ _ _ _ _ (Act.put _ (some 68) _) _
  (try simp only [Act.put]); (try simp only [List.setIfInBounds_toArray]); (try simp only [List.set_cons_zero]); (try simp only [List.set_cons_succ])
  refine wpAnyH_take (i := 10) (v := ?v10) rfl (by kernel_rfl) (by kernel_rfl) (by kernel_rfl) (fun _ _ _ h => h) (Or.inl ⟨by kernel_rfl, ?hy10⟩) (by assumption) ?rest10
  case hy10 => ((intro wS hSw); (try dsimp only at hSw); (go_simp); (try with_reducible rfl))
  change wpAnyH _ _ _ _ _ _ _ (Act.put _ (some 69) _) _
  (try simp only [Act.put]); (try simp only [List.setIfInBounds_toArray]); (try simp only [List.set_cons_zero]); (try simp only [List.set_cons_succ])
  refine wpAnyH_take (i := 11) (v := ?v11) rfl (by kernel_rfl) (by kernel_rfl) (by kernel_rfl) (fun _ _ _ h => h) (Or.inl ⟨by kernel_rfl, ?hy11⟩) (by assumption) ?rest11
  case hy11 => ((intro wS hSw); (try dsimp only at hSw); (go_simp); (try with_reducible rfl))
  change wpAnyH _ _ _ _ _ _ _ (Act.put _ (some 70) _) _
  (try simp only [Act.put]); (try simp only [List.setIfInBounds_toArray]); (try simp only [List.set_cons_zero]); (try simp only [List.set_cons_succ])
  refine wpAnyH_take (i := 12) (v := ?v12) rfl (by kernel_rfl) (by kernel_rfl) (by kernel_rfl) (fun _ _ _ h => h) (Or.inl ⟨by kernel_rfl, ?hy12⟩) (by assumption) ?rest12
  case hy12 => ((intro wS hSw); (try dsimp only at hSw); (go_simp); (try with_reducible rfl))
  change wpAnyH _ _ _ _ _ _ _ (Act.put _ (some 71) _) _
  (try simp only [Act.put]); (try simp only [List.setIfInBounds_toArray]); (try simp only [List.set_cons_zero]); (try simp only [List.set_cons_succ])
  refine wpAnyH_take (i := 13) (v := ?v13) rfl (by kernel_rfl) (by kernel_rfl) (by kernel_rfl) (fun _ _ _ h => h) (Or.inl ⟨by kernel_rfl, ?hy13⟩) (by assumption) ?rest13
  case hy13 => ((intro wS hSw); (try dsimp only at hSw); (go_simp); (try with_reducible rfl))
  change wpAnyH _ _ _ _ _ _ _ (Act.put _ (some 72) _) _
  (try simp only [Act.put]); (try simp only [List.setIfInBounds_toArray]); (try simp only [List.set_cons_zero]); (try simp only [List.set_cons_succ])
  refine wpAnyH_take (i := 14) (v := ?v14) rfl (by kernel_rfl) (by kernel_rfl) (by kernel_rfl) (fun _ _ _ h => h) (Or.inl ⟨by kernel_rfl, ?hy14⟩) (by assumption) ?rest14
  case hy14 => ((intro wS hSw); (try dsimp only at hSw); (go_simp); (try with_reducible rfl))
  change wpAnyH _ _ _ _ _ _ _ (Act.put _ (some 73) _) _
  (try simp only [Act.put]); (try simp only [List.setIfInBounds_toArray]); (try simp only [List.set_cons_zero]); (try simp only [List.set_cons_succ])
  refine wpAnyH_take (i := 15) (v := ?v15) rfl (by kernel_rfl) (by kernel_rfl) (by kernel_rfl) (fun _ _ _ h => h) (Or.inl ⟨by kernel_rfl, ?hy15⟩) (by assumption) ?rest15
  case hy15 => ((intro wS hSw); (try dsimp only at hSw); (go_simp); (try with_reducible rfl))
  change wpAnyH _ _ _ _ _ _ _ (Act.put _ (some 74) _) _
  (try simp only [Act.put]); (try simp only [List.setIfInBounds_toArray]); (try simp only [List.set_cons_zero]); (try simp only [List.set_cons_succ])
  refine wpAnyH_ready (rs := [16]) (by kernel_rfl) (by simp) (AllReadyH.cons rfl (fun K hK => ?_) AllReadyH.nil)
  rw [if_pos (by kernel_rfl)]
  go_simp
  (go_at_call 22; (with_reducible refine (HPK.out _ HSP.out HSA.out).mono ?_); rintro e wA ⟨rfl, hbA⟩; (have HHB := hide (HHB.out.trans (hbA.mono HHB.out.size))); (have HSP := hide (HSP.out.still (Still.of_below hbA))); (have HSA := hide (HSA.out.still (Still.of_below hbA))); (have HX := hide (HX.out.below hbA)); (obtain ⟨x0, x1, x2, x3, x4, x5⟩ := HX.out.cells); (have hxl := HX.out.lt))
  refine hK.out _ _ ?_ (fun hHeld => ?_)
  · exact ⟨x0, x1, x2, x3, x4, x5⟩
  clear hK K
  (try simp only [Act.put]); (try simp only [List.setIfInBounds_toArray]); (try simp only [List.set_cons_zero]); (try simp only [List.set_cons_succ])
  refine wpAnyH_take (i := 17) (v := ?v17) rfl (by kernel_rfl) (by kernel_rfl) (by kernel_rfl) (fun _ _ _ h => h) (Or.inl ⟨by kernel_rfl, ?hy17⟩) (by assumption) ?rest17
  case hy17 => ((intro wS hSw); (try dsimp only at hSw); (go_simp); (try with_reducible rfl))
  change wpAnyH _ _ _ _ _ _ _ (Act.put _ (some 76) _) _
  (try simp only [Act.put]); (try simp only [List.setIfInBounds_toArray]); (try simp only [List.set_cons_zero]); (try simp only [List.set_cons_succ])
  refine wpAnyH_take (i := 18) (v := ?v18) rfl (by kernel_rfl) (by kernel_rfl) (by kernel_rfl) (fun _ _ _ h => h) (Or.inl ⟨by kernel_rfl, ?hy18⟩) (by assumption) ?rest18
  case hy18 => ((intro wS hSw); (try dsimp only at hSw); (go_simp); (try with_reducible rfl))
  change wpAnyH _ _ _ _ _ _ _ (Act.put _ (some 77) _) _
  (try simp only [Act.put]); (try simp only [List.setIfInBounds_toArray]); (try simp only [List.set_cons_zero]); (try simp only [List.set_cons_succ])
  refine wpAnyH_take (i := 19) (v := undef) rfl (by kernel_rfl) (by kernel_rfl) (by kernel_rfl) (fun _ _ _ h => h) (Or.inr ⟨by kernel_rfl, rfl⟩) (by assumption) ?_
  change wpAnyH _ _ _ _ _ _ _ (Act.put _ (some 78) _) _
  (try simp only [Act.put]); (try simp only [List.setIfInBounds_toArray]); (try simp only [List.set_cons_zero]); (try simp only [List.set_cons_succ])
  refine wpAnyH_take (i := 20) (v := undef) rfl (by kernel_rfl) (by kernel_rfl) (by kernel_rfl) (fun _ _ _ h => h) (Or.inr ⟨by kernel_rfl, rfl⟩) (by assumption) ?_
  change wpAnyH _ _ _ _ _ _ _ (Act.put _ (some 79) _) _
  (try simp only [Act.put]); (try simp only [List.setIfInBounds_toArray]); (try simp only [List.set_cons_zero]); (try simp only [List.set_cons_succ])
  refine wpAnyH_take (i := 21) (v := ?v21) rfl (by kernel_rfl) (by kernel_rfl) (by kernel_rfl) (fun _ _ _ h => h) (Or.inl ⟨by kernel_rfl, ?hy21⟩) (by assumption) ?rest21
  case hy21 => ((intro wS hSw); (try dsimp only at hSw); (go_simp); (try with_reducible rfl))
  change wpAnyH _ _ _ _ _ _ _ (Act.put _ (some 80) _) _
  (try simp only [Act.put]); (try simp only [List.setIfInBounds_toArray]); (try simp only [List.set_cons_zero]); (try simp only [List.set_cons_succ])
  refine wpAnyH_take (i := 22) (v := ?v22) rfl (by kernel_rfl) (by kernel_rfl) (by kernel_rfl) (fun _ _ _ h => h) (Or.inl ⟨by kernel_rfl, ?hy22⟩) (by assumption) ?rest22
  case hy22 => ((intro wS hSw); (try dsimp only at hSw); (go_simp); (try with_reducible rfl))
  change wpAnyH _ _ _ _ _ _ _ (Act.put _ (some 2) _) _
  (try simp only [Act.put]); (try simp only [List.setIfInBounds_toArray]); (try simp only [List.set_cons_zero]); (try simp only [List.set_cons_succ])
  refine wpAnyH_done (by kernel_rfl) ?_ _
  go_wp2_with fail
  go_ret
  exact ⟨rfl, HHB.out⟩

set_option maxHeartbeats 1600000 in
set_option maxRecDepth 100000 in
theorem slv11 (w : World) (ok : Bool) (b : Nat) (wi de : ByteArray) (ps : List Pkt) (ac : List Int) (pv av : Value) (hp : SlG elP w pv ps) (ha : SlG elI w av ac) (hwi : wi.size ≤ 1048576) (hde : de.size ≤ 1048576) (Lwi : labsB wi = true) (Lde : labsB de = true) (h1 : wi.size ≤ 3) (h4 : b ≤ de.size) (h5 : de.size ≤ b + wi.size) (h6 : b + wi.size ≤ 100) (hag : agreeB b (de.size - b) wi de = true) (hpk : (ps.all (pktB (de.extract 0 b ++ wi)) && decide (ps.length ≤ 6)) = true) (hak : (ac.all (ackB (de.size : Int)) && decide (ac.length ≤ 6)) = ok) :
    Calls Tryd.prog 7 #[.agg #[.int .i64 (b : Int), .string wi, .int .i64 (de.size : Int), .string de, pv, av]] w fun e w' => e = .returned (.bool ok) ∧ Below w.heap.size w w' := by
  have HZ := hide (And.intro hwi hde)
  have HLwi := hide (fun (W : World) => (show Calls Tryd.prog 21 #[.string wi] W (fun e w' => e = .returned (.bool true) ∧ w' = W) by have := (specLabs wi W (by omega)).mono (fun e w' h => (show e = .returned (.bool (labsB wi)) ∧ w' = W from ⟨h.1, h.2.symm⟩)); rw [Lwi] at this; exact this))
  have HLde := hide (fun (W : World) => (show Calls Tryd.prog 21 #[.string de] W (fun e w' => e = .returned (.bool true) ∧ w' = W) by have := (specLabs de W (by omega)).mono (fun e w' h => (show e = .returned (.bool (labsB de)) ∧ w' = W from ⟨h.1, h.2.symm⟩)); rw [Lde] at this; exact this))
  clear Lwi Lde
  obtain ⟨pa, pc, rfl, -, -⟩ := hp.at
  obtain ⟨aa, ac', rfl, -, -⟩ := ha.at
  have hB := alloc_below w (.cells #[.int .i64 (b : Int), .string wi, .int .i64 (de.size : Int), .string de, .slice pa ps.length pc, .slice aa ac.length ac'] ( /- t -/ 30))
  have HX := hide (Box6.now w (.int .i64 (b : Int)) (.string wi) (.int .i64 (de.size : Int)) (.string de) (.slice pa ps.length pc) (.slice aa ac.length ac') ( /- t -/ 30))
  have HSP := hide (hp.still (Still.of_below hB))
  have HSA := hide (ha.still (Still.of_below hB))
  have HHB := hide hB
  clear hp ha hB
  have d1 : decide ((3 : Int) < (wi.size : Int)) = false := decide_eq_false (by omega)
  have d3 : decide ((b : Int) < 0) = false := decide_eq_false (by omega)
  have d4 : decide ((de.size : Int) < (b : Int)) = false := decide_eq_false (by omega)
  have d4n : decide (de.size < b) = false := decide_eq_false (by omega)
  have d5 : decide ((b : Int) + (wi.size : Int) < (de.size : Int)) = false := decide_eq_false (by omega)
  have d6 : decide ((100 : Int) < (b : Int) + (wi.size : Int)) = false := decide_eq_false (by omega)
  obtain ⟨d, hd⟩ : ∃ d : Nat, d = de.size - b := ⟨_, rfl⟩
  have hd1 : (de.size : Int) - (b : Int) = (d : Int) := by omega
  have hd2 : d ≤ wi.size := by omega
  have hd3 : (d : Int) ≤ (wi.size : Int) := by omega
  have hw : IntKind.i64.wrap (d : Int) = (d : Int) := by rw [IntKind.wrap_i64]; omega
  have hb1 : (b : Int) ≤ (de.size : Int) := by omega
  rw [← hd] at hag
  clear hd
  unfold agreeB at hag
  have HPK : Hid (∀ W : World, SlG elP W (.slice pa ps.length pc) ps → SlG elI W (.slice aa ac.length ac') ac → Calls Tryd.prog 22 #[.agg #[.int .i64 (b : Int), .string wi, .int .i64 (de.size : Int), .string de, .slice pa ps.length pc, .slice aa ac.length ac']] W (fun e w' => e = .returned (.bool true) ∧ Below W.heap.size W w')) := fun W hp ha => by have := specPackets W b (de.size : Int) wi de ps ac _ _ hp ha h4 hwi hde; rw [hpk] at this; exact this
  have HAK : Hid (∀ W : World, SlG elP W (.slice pa ps.length pc) ps → SlG elI W (.slice aa ac.length ac') ac → Calls Tryd.prog 23 #[.agg #[.int .i64 (b : Int), .string wi, .int .i64 (de.size : Int), .string de, .slice pa ps.length pc, .slice aa ac.length ac']] W (fun e w' => e = .returned (.bool ok) ∧ Below W.heap.size W w')) := fun W hp ha => by have := specAcks W b (de.size : Int) wi de ps ac _ _ hp ha h4 hwi hde; rw [hak] at this; exact this
  clear hpk hak
  go_enter Tryd.func7, Tryd.ntmps7
  go_wp2_with (first | (go_at_call 21; (with_reducible refine (HLwi.out _).mono ?_); rintro e wA ⟨rfl, rfl⟩) | (go_at_call 21; (with_reducible refine (HLde.out _).mono ?_); rintro e wA ⟨rfl, rfl⟩) | fail)
  generalize w.alloc (.cells #[.int .i64 (b : Int), .string wi, .int .i64 (de.size : Int), .string de, .slice pa ps.length pc, .slice aa ac.length ac'] ( /- t -/ 30)) = W at *
  have HX := hide HX.out.drew
  have HSP := hide (HSP.out.still (still_drew W))
  have HSA := hide (HSA.out.still (still_drew W))
  have HHB := hide HHB.out.drew
  obtain ⟨x0, x1, x2, x3, x4, x5⟩ := HX.out.cells
  have hxl := HX.out.lt
  refine wp_region_held_drew (S := (fun w' => w'.cell? ⟨w.heap.size, 0, none⟩ = some (.int .i64 (b : Int)) ∧ w'.cell? ⟨w.heap.size, 1, none⟩ = some (.string wi) ∧ w'.cell? ⟨w.heap.size, 2, none⟩ = some (.int .i64 (de.size : Int)) ∧ w'.cell? ⟨w.heap.size, 3, none⟩ = some (.string de) ∧ w'.cell? ⟨w.heap.size, 4, none⟩ = some (.slice pa ps.length pc) ∧ w'.cell? ⟨w.heap.size, 5, none⟩ = some (.slice aa ac.length ac'))) (by kernel_rfl) ?_ (fun hHeld => ?_)
  · exact ⟨x0, x1, x2, x3, x4, x5⟩
  refine wpAnyH_take (i := 0) (v := ?v0) rfl (by kernel_rfl) (by kernel_rfl) (by kernel_rfl) (fun _ _ _ h => h) (Or.inl ⟨by kernel_rfl, ?hy0⟩) (by assumption) ?rest0
  case hy0 => ((intro wS hSw); (try dsimp only at hSw); (go_simp); (try with_reducible rfl))
  change wpAnyH _ _ _ _ _ _ _ (Act.put _ (some 59) _) _
  (try simp only [Act.put]); (try simp only [List.setIfInBounds_toArray]); (try simp only [List.set_cons_zero]); (try simp only [List.set_cons_succ])
  refine wpAnyH_take (i := 1) (v := ?v1) rfl (by kernel_rfl) (by kernel_rfl) (by kernel_rfl) (fun _ _ _ h => h) (Or.inl ⟨by kernel_rfl, ?hy1⟩) (by assumption) ?rest1
  case hy1 => ((intro wS hSw); (try dsimp only at hSw); (go_simp); (try with_reducible rfl))
  change wpAnyH _ _ _ _ _ _ _ (Act.put _ (some 60) _) _
  (try simp only [Act.put]); (try simp only [List.setIfInBounds_toArray]); (try simp only [List.set_cons_zero]); (try simp only [List.set_cons_succ])
  refine wpAnyH_take (i := 2) (v := ?v2) rfl (by kernel_rfl) (by kernel_rfl) (by kernel_rfl) (fun _ _ _ h => h) (Or.inl ⟨by kernel_rfl, ?hy2⟩) (by assumption) ?rest2
  case hy2 => ((intro wS hSw); (try dsimp only at hSw); (go_simp); (try with_reducible rfl))
  change wpAnyH _ _ _ _ _ _ _ (Act.put _ (some 61) _) _
  (try simp only [Act.put]); (try simp only [List.setIfInBounds_toArray]); (try simp only [List.set_cons_zero]); (try simp only [List.set_cons_succ])
  refine wpAnyH_take (i := 3) (v := ?v3) rfl (by kernel_rfl) (by kernel_rfl) (by kernel_rfl) (fun _ _ _ h => h) (Or.inl ⟨by kernel_rfl, ?hy3⟩) (by assumption) ?rest3
  case hy3 => ((intro wS hSw); (try dsimp only at hSw); (go_simp); (try with_reducible rfl))
  change wpAnyH _ _ _ _ _ _ _ (Act.put _ (some 62) _) _
  (try simp only [Act.put]); (try simp only [List.setIfInBounds_toArray]); (try simp only [List.set_cons_zero]); (try simp only [List.set_cons_succ])
  refine wpAnyH_take (i := 4) (v := ?v4) rfl (by kernel_rfl) (by kernel_rfl) (by kernel_rfl) (fun _ _ _ h => h) (Or.inl ⟨by kernel_rfl, ?hy4⟩) (by assumption) ?rest4
  case hy4 => ((intro wS hSw); (try dsimp only at hSw); (go_simp); (try with_reducible rfl))
  change wpAnyH _ _ _ _ _ _ _ (Act.put _ (some 63) _) _
  (try simp only [Act.put]); (try simp only [List.setIfInBounds_toArray]); (try simp only [List.set_cons_zero]); (try simp only [List.set_cons_succ])
  refine wpAnyH_take (i := 5) (v := ?v5) rfl (by kernel_rfl) (by kernel_rfl) (by kernel_rfl) (fun _ _ _ h => h) (Or.inl ⟨by kernel_rfl, ?hy5⟩) (by assumption) ?rest5
  case hy5 => ((intro wS hSw); (try dsimp only at hSw); (go_simp); (try with_reducible rfl))
  change wpAnyH _ _ _ _ _ _ _ (Act.put _ (some 64) _) _
  (try simp only [Act.put]); (try simp only [List.setIfInBounds_toArray]); (try simp only [List.set_cons_zero]); (try simp only [List.set_cons_succ])
  refine wpAnyH_take (i := 6) (v := ?v6) rfl (by kernel_rfl) (by kernel_rfl) (by kernel_rfl) (fun _ _ _ h => h) (Or.inl ⟨by kernel_rfl, ?hy6⟩) (by assumption) ?rest6
  case hy6 => ((intro wS hSw); (try dsimp only at hSw); (go_simp); (try with_reducible rfl))
  change wpAnyH _ _ _ _ _ _ _ (Act.put _ (some 65) _) _
  (try simp only [Act.put]); (try simp only [List.setIfInBounds_toArray]); (try simp only [List.set_cons_zero]); (try simp only [List.set_cons_succ])
  refine wpAnyH_take (i := 7) (v := ?v7) rfl (by kernel_rfl) (by kernel_rfl) (by kernel_rfl) (fun _ _ _ h => h) (Or.inl ⟨by kernel_rfl, ?hy7⟩) (by assumption) ?rest7
  case hy7 => ((intro wS hSw); (try dsimp only at hSw); (go_simp); (try with_reducible rfl))
  change wpAnyH _ _ _ _ _ _ _ (Act.put _ (some 66) _) _
  (try simp only [Act.put]); (try simp only [List.setIfInBounds_toArray]); (try simp only [List.set_cons_zero]); (try simp only [List.set_cons_succ])
  refine wpAnyH_take (i := 8) (v := ?v8) rfl (by kernel_rfl) (by kernel_rfl) (by kernel_rfl) (fun _ _ _ h => h) (Or.inl ⟨by kernel_rfl, ?hy8⟩) (by assumption) ?rest8
  case hy8 => ((intro wS hSw); (try dsimp only at hSw); (go_simp); (try with_reducible rfl))
  change wpAnyH _ _ _ _ _ _ _ (Act.put _ (some 67) _) _
  (try simp only [Act.put]); (try simp only [List.setIfInBounds_toArray]); (try simp only [List.set_cons_zero]); (try simp only [List.set_cons_succ])
  refine wpAnyH_take (i := 9) (v := ?v9) rfl (by kernel_rfl) (by kernel_rfl) (by kernel_rfl) (fun _ _ _ h => h) (Or.inl ⟨by kernel_rfl, ?hy9⟩) (by assumption) ?rest9
  case hy9 => ((intro wS hSw); (try dsimp only at hSw); (go_simp); (try with_reducible rfl))
  change wpAnyH _ _ _ _ _ _ _ (Act.put _ (some 68) _) _
  (try simp only [Act.put]); (try simp only [List.setIfInBounds_toArray]); (try simp only [List.set_cons_zero]); (try simp only [List.set_cons_succ])
  refine wpAnyH_take (i := 10) (v := ?v10) rfl (by kernel_rfl) (by kernel_rfl) (by kernel_rfl) (fun _ _ _ h => h) (Or.inl ⟨by kernel_rfl, ?hy10⟩) (by assumption) ?rest10
  case hy10 => ((intro wS hSw); (try dsimp only at hSw); (go_simp); (try with_reducible rfl))
  change wpAnyH _ _ _ _ _ _ _ (Act.put _ (some 69) _) _
  (try simp only [Act.put]); (try simp only [List.setIfInBounds_toArray]); (try simp only [List.set_cons_zero]); (try simp only [List.set_cons_succ])
  refine wpAnyH_take (i := 11) (v := ?v11) rfl (by kernel_rfl) (by kernel_rfl) (by kernel_rfl) (fun _ _ _ h => h) (Or.inl ⟨by kernel_rfl, ?hy11⟩) (by assumption) ?rest11
  case hy11 => ((intro wS hSw); (try dsimp only at hSw); (go_simp); (try with_reducible rfl))
  change wpAnyH _ _ _ _ _ _ _ (Act.put _ (some 70) _) _
  (try simp only [Act.put]); (try simp only [List.setIfInBounds_toArray]); (try simp only [List.set_cons_zero]); (try simp only [List.set_cons_succ])
  refine wpAnyH_take (i := 12) (v := ?v12) rfl (by kernel_rfl) (by kernel_rfl) (by kernel_rfl) (fun _ _ _ h => h) (Or.inl ⟨by kernel_rfl, ?hy12⟩) (by assumption) ?rest12
  case hy12 => ((intro wS hSw); (try dsimp only at hSw); (go_simp); (try with_reducible rfl))
  change wpAnyH _ _ _ _ _ _ _ (Act.put _ (some 71) _) _
  (try simp only [Act.put]); (try simp only [List.setIfInBounds_toArray]); (try simp only [List.set_cons_zero]); (try simp only [List.set_cons_succ])
  refine wpAnyH_take (i := 13) (v := ?v13) rfl (by kernel_rfl) (by kernel_rfl) (by kernel_rfl) (fun _ _ _ h => h) (Or.inl ⟨by kernel_rfl, ?hy13⟩) (by assumption) ?rest13
  case hy13 => ((intro wS hSw); (try dsimp only at hSw); (go_simp); (try with_reducible rfl))
  change wpAnyH _ _ _ _ _ _ _ (Act.put _ (some 72) _) _
  (try simp only [Act.put]); (try simp only [List.setIfInBounds_toArray]); (try simp only [List.set_cons_zero]); (try simp only [List.set_cons_succ])
  refine wpAnyH_take (i := 14) (v := ?v14) rfl (by kernel_rfl) (by kernel_rfl) (by kernel_rfl) (fun _ _ _ h => h) (Or.inl ⟨by kernel_rfl, ?hy14⟩) (by assumption) ?rest14
  case hy14 => ((intro wS hSw); (try dsimp only at hSw); (go_simp); (try with_reducible rfl))
  change wpAnyH _ _ _ _ _ _ _ (Act.put _ (some 73) _) _
  (try simp only [Act.put]); (try simp only [List.setIfInBounds_toArray]); (try simp only [List.set_cons_zero]); (try simp only [List.set_cons_succ])
  refine wpAnyH_take (i := 15) (v := ?v15) rfl (by kernel_rfl) (by kernel_rfl) (by kernel_rfl) (fun _ _ _ h => h) (Or.inl ⟨by kernel_rfl, ?hy15⟩) (by assumption) ?rest15
  case hy15 => ((intro wS hSw); (try dsimp only at hSw); (go_simp); (try with_reducible rfl))
  change wpAnyH _ _ _ _ _ _ _ (Act.put _ (some 74) _) _
  (try simp only [Act.put]); (try simp only [List.setIfInBounds_toArray]); (try simp only [List.set_cons_zero]); (try simp only [List.set_cons_succ])
  refine wpAnyH_ready (rs := [16]) (by kernel_rfl) (by simp) (AllReadyH.cons rfl (fun K hK => ?_) AllReadyH.nil)
  rw [if_pos (by kernel_rfl)]
  go_simp
  (go_at_call 22; (with_reducible refine (HPK.out _ HSP.out HSA.out).mono ?_); rintro e wA ⟨rfl, hbA⟩; (have HHB := hide (HHB.out.trans (hbA.mono HHB.out.size))); (have HSP := hide (HSP.out.still (Still.of_below hbA))); (have HSA := hide (HSA.out.still (Still.of_below hbA))); (have HX := hide (HX.out.below hbA)); (obtain ⟨x0, x1, x2, x3, x4, x5⟩ := HX.out.cells); (have hxl := HX.out.lt))
  refine hK.out _ _ ?_ (fun hHeld => ?_)
  · exact ⟨x0, x1, x2, x3, x4, x5⟩
  clear hK K
  (try simp only [Act.put]); (try simp only [List.setIfInBounds_toArray]); (try simp only [List.set_cons_zero]); (try simp only [List.set_cons_succ])
  refine wpAnyH_take (i := 17) (v := ?v17) rfl (by kernel_rfl) (by kernel_rfl) (by kernel_rfl) (fun _ _ _ h => h) (Or.inl ⟨by kernel_rfl, ?hy17⟩) (by assumption) ?rest17
  case hy17 => ((intro wS hSw); (try dsimp only at hSw); (go_simp); (try with_reducible rfl))
  change wpAnyH _ _ _ _ _ _ _ (Act.put _ (some 76) _) _
  (try simp only [Act.put]); (try simp only [List.setIfInBounds_toArray]); (try simp only [List.set_cons_zero]); (try simp only [List.set_cons_succ])
  refine wpAnyH_take (i := 18) (v := ?v18) rfl (by kernel_rfl) (by kernel_rfl) (by kernel_rfl) (fun _ _ _ h => h) (Or.inl ⟨by kernel_rfl, ?hy18⟩) (by assumption) ?rest18
  case hy18 => ((intro wS hSw); (try dsimp only at hSw); (go_simp); (try with_reducible rfl))
  change wpAnyH _ _ _ _ _ _ _ (Act.put _ (some 77) _) _
  (try simp only [Act.put]); (try simp only [List.setIfInBounds_toArray]); (try simp only [List.set_cons_zero]); (try simp only [List.set_cons_succ])
  refine wpAnyH_take (i := 19) (v := ?v19) rfl (by kernel_rfl) (by kernel_rfl) (by kernel_rfl) (fun _ _ _ h => h) (Or.inl ⟨by kernel_rfl, ?hy19⟩) (by assumption) ?rest19
  case hy19 => ((intro wS hSw); (try dsimp only at hSw); (go_simp); (try with_reducible rfl))
  change wpAnyH _ _ _ _ _ _ _ (Act.put _ (some 78) _) _
  (try simp only [Act.put]); (try simp only [List.setIfInBounds_toArray]); (try simp only [List.set_cons_zero]); (try simp only [List.set_cons_succ])
  refine wpAnyH_ready (rs := [20]) (by kernel_rfl) (by simp) (AllReadyH.cons rfl (fun K hK => ?_) AllReadyH.nil)
  rw [if_pos (by kernel_rfl)]
  go_simp
  (go_at_call 23; (with_reducible refine (HAK.out _ HSP.out HSA.out).mono ?_); rintro e wA ⟨rfl, hbA⟩; (have HHB := hide (HHB.out.trans (hbA.mono HHB.out.size))); (have HSP := hide (HSP.out.still (Still.of_below hbA))); (have HSA := hide (HSA.out.still (Still.of_below hbA))); (have HX := hide (HX.out.below hbA)); (obtain ⟨x0, x1, x2, x3, x4, x5⟩ := HX.out.cells); (have hxl := HX.out.lt))
  refine hK.out _ _ ?_ (fun hHeld => ?_)
  · exact ⟨x0, x1, x2, x3, x4, x5⟩
  clear hK K
  (try simp only [Act.put]); (try simp only [List.setIfInBounds_toArray]); (try simp only [List.set_cons_zero]); (try simp only [List.set_cons_succ])
  refine wpAnyH_take (i := 21) (v := ?v21) rfl (by kernel_rfl) (by kernel_rfl) (by kernel_rfl) (fun _ _ _ h => h) (Or.inl ⟨by kernel_rfl, ?hy21⟩) (by assumption) ?rest21
  case hy21 => ((intro wS hSw); (try dsimp only at hSw); (go_simp); (try with_reducible rfl))
  change wpAnyH _ _ _ _ _ _ _ (Act.put _ (some 80) _) _
  (try simp only [Act.put]); (try simp only [List.setIfInBounds_toArray]); (try simp only [List.set_cons_zero]); (try simp only [List.set_cons_succ])
  refine wpAnyH_take (i := 22) (v := ?v22) rfl (by kernel_rfl) (by kernel_rfl) (by kernel_rfl) (fun _ _ _ h => h) (Or.inl ⟨by kernel_rfl, ?hy22⟩) (by assumption) ?rest22
  case hy22 => ((intro wS hSw); (try dsimp only at hSw); (go_simp); (try with_reducible rfl))
  change wpAnyH _ _ _ _ _ _ _ (Act.put _ (some 2) _) _
  (try simp only [Act.put]); (try simp only [List.setIfInBounds_toArray]); (try simp only [List.set_cons_zero]); (try simp only [List.set_cons_succ])
  refine wpAnyH_done (by kernel_rfl) ?_ _
  go_wp2_with fail
  go_ret
  exact ⟨rfl, HHB.out⟩

end Go.Proofs.YtmkjipnemapdeaaDoor.Tk
