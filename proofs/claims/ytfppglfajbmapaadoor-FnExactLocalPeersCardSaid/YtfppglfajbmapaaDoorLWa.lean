/- writeLinked of the program: actions; FormatLocal of the program. -/
import Derived.Test.YtfppglfajbmapaaDoorLWr
import Derived.StillTailTactics
import Derived.Lib.UnsafeStr
namespace Go.Proofs.YtfppglfajbmapaaDoor.Lo
open Go.RowKit

theorem mark_false (w : World) : Calls Tryd.prog 111 #[.bool false] w fun e w' => e = .returned (.string ⟨#[33]⟩) ∧ w' = w := by
  go_enter Tryd.func111, Tryd.ntmps111
  go_wp2_with fail
  go_ret
  exact ⟨rfl, rfl⟩
theorem mark_true (w : World) : Calls Tryd.prog 111 #[.bool true] w fun e w' => e = .returned (.string ⟨#[63]⟩) ∧ w' = w := by
  go_enter Tryd.func111, Tryd.ntmps111
  go_wp2_with fail
  go_ret
  exact ⟨rfl, rfl⟩

set_option maxHeartbeats 3200000 in
set_option maxRecDepth 100000 in
theorem wl_act2 (n : Nat) (ih : WlAt n) (w0 w : World) (B bb : Nat) (bs : List Value) (ix d dp un : Int) (fr : ByteArray) (v lv : Value) (kids : F) (ps ks : List Nat) (hn : kids.sz < n + 1) (hbig : kids.sz ≤ 400) (hk : LkN w0 2 fr ix kids ps v ks) (h0 : w0.heap.size ≤ B) (hw : Below w0.heap.size w0 w) (hB : B ≤ w.heap.size)
    (hp : Pt w lv ps) (hnd : ps.Nodup) (hpb : ∀ x, x ∈ ps → ∃ cs, Blk w0 x cs) (hd1 : 1 ≤ d) (hbd : ps.length + d ≤ 40) (hdp : 0 ≤ dp) (hdd : dp + d ≤ 40) (hsh : shapeB 2 fr ix kids = true) (hv : vldF kids ps.length 0 (d - 1) = true)
    (hbu : Lib.IsBuilderF ( /- t -/ 83) ( /- t -/ 5) B bb bs w) (hlen : bs.length + (txN 2 fr ix kids).size ≤ 1048576) :
    Calls Tryd.prog 67 #[.pointer (some ⟨bb, 0, none⟩), v, .agg #[.int .i64 dp, lv, .int .i64 un]] w (WlPost w B bb bs (txN 2 fr ix kids)) := by
  have htx : txN 2 fr ix kids = fr ++ mark 2 ++ txF kids .first ++ bclose := rfl
  obtain ⟨e1, rfl, e5⟩ := shape_act (Or.inl rfl) hsh
  have hfr : fr.size = 1 := role_size e1
  have hmk : mark 2 = ⟨#[33]⟩ := rfl
  have hfm : (fr ++ mark 2).size = 2 := by rw [ByteArray.size_append, mark_size]; omega
  have hl2 : bs.length + 3 + (txF kids .first).size ≤ 1048576 := by
    rw [htx] at hlen
    simp only [ByteArray.size_append, mark_size] at hlen
    have e1 : bclose.size = 1 := rfl
    omega
  obtain ⟨A, r, bc, cs, xs, ks', rfl, hbA, hnc, hcm, hbr, hxs, hlk⟩ := linked_act (Or.inl rfl) hk
  obtain ⟨a, cap, rfl, -, -⟩ := hp.ps.val
  have hb1 := alloc_below w (.cells #[.int .i64 dp, .slice a ps.length cap, .int .i64 un] ( /- t -/ 105))
  have hX := alloc_last w #[.int .i64 dp, .slice a ps.length cap, .int .i64 un] ( /- t -/ 105)
  have hbw := bu_lt hbu
  have hAB : A < w0.heap.size := hbA.lt
  have hrB : r < w0.heap.size := hbr.lt
  have hbA1 : Blk (w.alloc (.cells #[.int .i64 dp, .slice a ps.length cap, .int .i64 un] ( /- t -/ 105))) A #[.int .i64 2, .string fr, .slice (some ⟨r, 0, none⟩) kids.len bc] := (hbA.below hw).below hb1
  have a0 : (w.alloc (.cells #[.int .i64 dp, .slice a ps.length cap, .int .i64 un] ( /- t -/ 105))).cell? ⟨A, 0, none⟩ = some (.int .i64 2) := hbA1.cell 0
  have a1 : (w.alloc (.cells #[.int .i64 dp, .slice a ps.length cap, .int .i64 un] ( /- t -/ 105))).cell? ⟨A, 1, none⟩ = some (.string fr) := hbA1.cell 1
  have hszw := hw.size
  have hAl : A < w.heap.size := by omega
  have hkl : kids.len ≤ 9223372036854775807 := by unfold maxLen at hcm; omega
  have hn1 : ∀ W : World, (Op.stringOp .add fr ⟨#[33]⟩).run Tryd.prog W = .ok (.string (fr ++ mark 2)) W := fun W => run_string_add_sum W _ _ (show fr.size + 1 ≤ _ by omega)
  have HBU := hide hbu
  have HL := hide hl2
  have HB1 := hide hb1
  have HX := hide hX
  have HP := hide hp
  have HND := hide hnd
  have HPB := hide hpb
  have HBA := hide hbA
  have HBR := hide hbr
  have HXS := hide hxs
  have HLK := hide hlk
  have HN := hide hn
  have HG := hide hbig
  have HV := hide hv
  have HW := hide hw
  have HTX := hide htx
  clear hp hbu hlen hl2 hb1 hX hnd hpb hbA hbr hxs hlk hn hbig hw hk hsh hv htx e1 e5 hbA1 hnc hcm hmk
  have n1 := taActEnd
  have n2 := taActVar
  have n3 := taActLoop
  have n4 := taActAct
  go_enter Tryd.func67, Tryd.ntmps67
  go_wp2_with fail
  generalize w.alloc (.cells #[.int .i64 dp, .slice a ps.length cap, .int .i64 un] ( /- t -/ 105)) = W0 at *
  go_still_tail 12, (by kernel_rfl)
  still_call (mark_false _)
  repeat still_step
  refine wpStill_nil ?_
  change wpList _ _ _ _ _ W0.drew
  have HB1 := hide HB1.out.drew
  have HX : Hid (W0.drew.heap[w.heap.size]? = some (.cells #[.int .i64 dp, .slice a ps.length cap, .int .i64 un] ( /- t -/ 105) (0, 0))) := HX
  generalize W0.drew = W1 at *
  go_wp2_with fail
  refine (write_string B bb bs (fr ++ mark 2) _ (bu_below HBU.out HB1.out) (by have := HL.out; omega) (Nat.le_trans hB HB1.out.size)).mono ?_
  rintro e w2 ⟨rfl, hat, hb3, ho3⟩
  have kp := ((Kp.refl B bb w).of_below hB HB1.out).trans ⟨hb3, ho3⟩
  have hX2 := (Kp.mk hb3 ho3).cells HX.out (by omega) (by decide)
  have hbA2 : Blk w2 A #[.int .i64 2, .string fr, .slice (some ⟨r, 0, none⟩) kids.len bc] := HBA.out.same ((kp.below.block A (by omega)).trans (HW.out.block A hAB))
  have b2 : w2.cell? ⟨A, 2, none⟩ = some (.slice (some ⟨r, 0, none⟩) kids.len bc) := hbA2.cell 2
  have hA2 : A < w2.heap.size := hbA2.lt
  have hB2 : B ≤ w2.heap.size := Nat.le_trans hB kp.below.size
  have hpt : Pt w2 (.slice a ps.length cap) ps := HP.out.kp HBU.out kp
  have HPT := hide hpt
  have HAT := hide hat
  have HKP := hide kp
  have HX2 := hide hX2
  clear hb3 ho3 hat kp hX2 hbA2 hpt a0 a1 hn1
  go_wp2_with fail
  go_loopw [10, 65] (fun pv iv wr => ∃ (g : F) (k : Nat) (bs' ys : List Value) (rs : List Nat), k + g.len = kids.len ∧ pv = .string (sepB k) ∧ iv = .int .i64 k ∧ g.sz ≤ kids.sz ∧ Lk w0 g ps ys rs ∧ xs.drop (k * 2) = ys ∧ vldF g ps.length 0 (d - 1) = true ∧
    bs' ++ Lib.strCells (txF g (md k)) = bs ++ Lib.strCells (fr ++ mark 2 ++ txF kids .first) ∧ Lib.IsBuilderF ( /- t -/ 83) ( /- t -/ 5) B bb bs' wr ∧ Kp B bb w2 wr) (fun _ iv _ => kids.len - (intOf iv).toNat)
  case atStart => exact ⟨kids, 0, bs ++ Lib.strCells (fr ++ mark 2), xs, ks', by omega, rfl, rfl, Nat.le_refl _, HLK.out, rfl, HV.out, by rw [strCells_append (fr ++ mark 2), List.append_assoc]; rfl, Or.inr HAT.out, Kp.refl _ _ _⟩
  case round =>
    obtain ⟨g, k, bs', ys, rs, hk, rfl, rfl, h5, hg, hys, hv, htx, hbu, kpr⟩ := hrel
    have hlen' := congrArg List.length htx
    simp only [List.length_append, Lib.strCells_length, ByteArray.size_append, hfr, mark_size] at hlen'
    have HLB := hide hlen'
    have HTX2 := hide htx
    have HBR2 := hide hbu
    have HKR := hide kpr
    have hBr : B ≤ wr.heap.size := Nat.le_trans hB2 kpr.below.size
    cases g with
    | nil =>
      have H5 : Hid (k = kids.len) := by unfold Hid; simpa [F.len] using hk
      have hge : kids.len ≤ k := Nat.le_of_eq H5.out.symm
      clear hk htx hv hbu kpr hlen' hg hys
      go_wp2_with fail
      refine (write_byte B bb bs' 125 _ HBR2.out (by have h1 := HLB.out; have h2 := HL.out; omega) hBr).mono ?_
      rintro e w3 ⟨rfl, hat3, hb3, ho3⟩
      go_wp2_with fail
      go_end0
      refine ⟨rfl, ?_, (HKP.out.trans HKR.out).trans ⟨hb3, ho3⟩⟩
      rw [HTX.out, strCells_append, ← List.append_assoc, ← HTX2.out]
      have e9 : Lib.strCells (txF F.nil (md k)) = [] := rfl
      rw [e9, List.append_nil]
      exact Or.inr hat3
    | cons lab kd fr' ix' kids' rest =>
      rw [txF_md] at htx
      have hlt : k < kids.len := by simp only [F.len] at hk; omega
      obtain ⟨T, x, ys', k1, r1, q0, q1, hln, hrest, hdrop⟩ := linked_next hg hys HBR.out HXS.out
      have kpw := HKP.out.trans kpr
      have hst : ∀ o v, w0.cell? ⟨r, o, none⟩ = some v → wr.cell? ⟨r, o, none⟩ = some v := fun o v h => by
        rw [Same.cell ((kpw.below.block r (by omega)).trans (HW.out.block r hrB))]
        exact h
      have q0 := hst _ _ q0
      have q1 := hst _ _ q1
      have hrr : r < wr.heap.size := World.block_lt_of_cell? _ _ q0
      simp only [vldF, Bool.and_eq_true] at hv
      have HK := hide hk
      have HX3 := hide htx
      have HLN := hide hln
      have HRE := hide hrest
      have HDR := hide hdrop
      have HVN := hide hv
      have H5 := hide h5
      have hz : bs'.length + 1 + lab.size + (txN kd fr' ix' kids').size ≤ 1048576 := by
        have h1 := HLB.out
        have h2 := HL.out
        rw [txF_md] at h1
        simp only [ByteArray.size_append, sepB_size] at h1
        omega
      have hsl : (sepB k).size = 1 := sepB_size k
      have HZ := hide hz
      have hls : lab.size ≤ 1048576 := by omega
      have hn2 : ∀ W : World, (Op.stringOp .add (sepB k) lab).run Tryd.prog W = .ok (.string (sepB k ++ lab)) W := fun W => run_string_add_sum W _ _ (by rw [hsl]; omega)
      have hptr := HPT.out.kp (Or.inr HAT.out) kpr
      have HPR := hide hptr
      have hb4 := alloc_below wr (.cells #[.string lab, .iface T x] ( /- t -/ 178))
      have hcl := alloc_last wr #[.string lab, .iface T x] ( /- t -/ 178)
      have hbbr : bb < wr.heap.size := Nat.lt_of_lt_of_le hbw (Nat.le_trans HKP.out.below.size kpr.below.size)
      have hXr := kpr.cells HX2.out (by omega) (by decide)
      have HXR := hide hXr
      have HCL := hide hcl
      have HB4 := hide hb4
      clear hk h5 hg hys htx hv hbu kpr hlen' hz hst hln hrest hdrop kpw hptr hb4 hcl hXr
      go_wp2_with fail
      refine (write_string B bb bs' (sepB k ++ lab) _ (bu_below HBR2.out HB4.out) (by have := HZ.out; rw [ByteArray.size_append, hsl]; omega) (Nat.le_trans hBr HB4.out.size)).mono ?_
      rintro e w4 ⟨rfl, hat4, hb5, ho5⟩
      have kp4 := (HKR.out.of_below hBr HB4.out).trans ⟨hb5, ho5⟩
      have kp34 := ((Kp.refl B bb wr).of_below hBr HB4.out).trans ⟨hb5, ho5⟩
      have hY := (Kp.mk hb5 ho5).cells HCL.out (by omega) (by decide)
      have z1 : w4.cell? ⟨wr.heap.size, 1, none⟩ = some (.iface T x) := cell_of_heap (o := 1) hY
      have hYl : wr.heap.size < w4.heap.size := World.block_lt_of_cell? _ _ z1
      have hX4 := kp34.cells HXR.out (by omega) (by decide)
      have x0 : w4.cell? ⟨w.heap.size, 0, none⟩ = some (.int .i64 dp) := cell_of_heap (o := 0) hX4
      have x1 : w4.cell? ⟨w.heap.size, 1, none⟩ = some (.slice a ps.length cap) := cell_of_heap (o := 1) hX4
      have x2 : w4.cell? ⟨w.heap.size, 2, none⟩ = some (.int .i64 un) := cell_of_heap (o := 2) hX4
      have hXl : w.heap.size < w4.heap.size := World.block_lt_of_cell? _ _ x0
      have hB4 : B ≤ w4.heap.size := Nat.le_trans hBr kp34.below.size
      have hptd : Pt w4.drew (.slice a ps.length cap) ps := HPR.out.kp HBR2.out kp34.drew
      have HPTD := hide hptd
      have hbud : Lib.IsBuilderF ( /- t -/ 83) ( /- t -/ 5) B bb (bs' ++ Lib.strCells (sepB k ++ lab)) w4.drew := Or.inr hat4
      have HBUD := hide hbud
      have hYd : w4.drew.heap[wr.heap.size]? = some (.cells #[.string lab, .iface T x] ( /- t -/ 178) (0, 0)) := hY
      have hXd : w4.drew.heap[w.heap.size]? = some (.cells #[.int .i64 dp, .slice a ps.length cap, .int .i64 un] ( /- t -/ 105) (0, 0)) := hX4
      have HYD := hide hYd
      have HXD := hide hXd
      have HKP4 := hide kp4
      have hneY : wr.heap.size ≠ bb := by omega
      have hneX : w.heap.size ≠ bb := by omega
      clear q0 q1 hb5 ho5 hat4 kp4 kp34 hY hX4 hptd hbud hYd hXd hn2
      go_wp2_with fail
      go_region_held3 (fun w' => w'.cell? ⟨wr.heap.size, 1, none⟩ = some (.iface T x) ∧ w'.cell? ⟨w.heap.size, 0, none⟩ = some (.int .i64 dp) ∧ w'.cell? ⟨w.heap.size, 1, none⟩ = some (.slice a ps.length cap) ∧ w'.cell? ⟨w.heap.size, 2, none⟩ = some (.int .i64 un))
        (first | exact ⟨z1, x0, x1, x2⟩ | exact ⟨g0, g1, g2, g3⟩ | exact ⟨l0, l1, l2, l3⟩)
        ((first
          | (go_at_call 112; refine (below_calls _ dp un _ ps ?_ (by omega) (by omega)).mono ?_; (exact HPTD.out.ps);
             rintro e w5 ⟨rfl, hb6⟩; have hst := Still.of_below hb6; have g0 := hst _ _ z1; have g1 := hst _ _ x0; have g2 := hst _ _ x1; have g3 := hst _ _ x2;
             have kp5 := HKP4.out.drew.of_below hB4 hb6)
          | (go_at_call 67; refine (ih w0 _ B bb (bs' ++ Lib.strCells (sepB k ++ lab)) kd ix' 0 (d - 1) (dp + 1) 0 fr' _ _ kids' ps k1 ?_ ?_ HLN.out h0 ?_ ?_ ?_ HND.out HPB.out (by omega) (by omega) (by omega) (by omega) (by omega) (by omega) HVN.out.1 ?_ ?_).mono ?_;
             (have h1 := H5.out; have h2 := HN.out; simp only [F.sz] at h1; omega); (have h1 := H5.out; have h2 := HG.out; simp only [F.sz] at h1; omega); (exact HW.out.trans ((HKP.out.trans kp5).below.mono h0)); (exact Nat.le_trans hB4 hb6.size); (exact HPTD.out.below hb6);
             (exact bu_below HBUD.out hb6); (have := HZ.out; rw [List.length_append, Lib.strCells_length, ByteArray.size_append, hsl]; omega);
             rintro e w6 ⟨rfl, hat6, kp6⟩;
             have kpB := ((Kp.refl B bb w4.drew).of_below hB4 hb6).trans kp6;
             have hY6 := kpB.cells HYD.out hneY (by decide);
             have hX6 := kpB.cells HXD.out hneX (by decide);
             have l0 : w6.cell? ⟨wr.heap.size, 1, none⟩ = some (.iface T x) := cell_of_heap (o := 1) hY6;
             have l1 : w6.cell? ⟨w.heap.size, 0, none⟩ = some (.int .i64 dp) := cell_of_heap (o := 0) hX6;
             have l2 : w6.cell? ⟨w.heap.size, 1, none⟩ = some (.slice a ps.length cap) := cell_of_heap (o := 1) hX6;
             have l3 : w6.cell? ⟨w.heap.size, 2, none⟩ = some (.int .i64 un) := cell_of_heap (o := 2) hX6)))
      have hkpf := kp5.trans kp6
      have HF := hide hkpf
      have HAT6 := hide hat6
      clear hst g0 g1 g2 g3 l0 l1 l2 l3 hY6 hX6 kpB kp5 kp6 hkpf hat6 hb6 z1 x0 x1 x2
      go_wp2_with fail
      refine ⟨⟨rest, k + 1, bs' ++ Lib.strCells (sepB k ++ lab) ++ Lib.strCells (txN kd fr' ix' kids'), ys', r1, ?_, ?_, by go_num, ?_, HRE.out, HDR.out, HVN.out.2, ?_, HAT6.out, HF.out⟩, by simp [intOf]; omega⟩
      · have := HK.out
        simp only [F.len] at this
        omega
      · unfold sepB
        rw [if_neg (by omega)]
        rfl
      · have := H5.out
        simp only [F.sz] at this
        omega
      · rw [← HX3.out]
        simp only [strCells_append, List.append_assoc]

set_option maxHeartbeats 3200000 in
set_option maxRecDepth 100000 in
theorem wl_act3 (n : Nat) (ih : WlAt n) (w0 w : World) (B bb : Nat) (bs : List Value) (ix d dp un : Int) (fr : ByteArray) (v lv : Value) (kids : F) (ps ks : List Nat) (hn : kids.sz < n + 1) (hbig : kids.sz ≤ 400) (hk : LkN w0 3 fr ix kids ps v ks) (h0 : w0.heap.size ≤ B) (hw : Below w0.heap.size w0 w) (hB : B ≤ w.heap.size)
    (hp : Pt w lv ps) (hnd : ps.Nodup) (hpb : ∀ x, x ∈ ps → ∃ cs, Blk w0 x cs) (hd1 : 1 ≤ d) (hbd : ps.length + d ≤ 40) (hdp : 0 ≤ dp) (hdd : dp + d ≤ 40) (hsh : shapeB 3 fr ix kids = true) (hv : vldF kids ps.length 0 (d - 1) = true)
    (hbu : Lib.IsBuilderF ( /- t -/ 83) ( /- t -/ 5) B bb bs w) (hlen : bs.length + (txN 3 fr ix kids).size ≤ 1048576) :
    Calls Tryd.prog 67 #[.pointer (some ⟨bb, 0, none⟩), v, .agg #[.int .i64 dp, lv, .int .i64 un]] w (WlPost w B bb bs (txN 3 fr ix kids)) := by
  have htx : txN 3 fr ix kids = fr ++ mark 3 ++ txF kids .first ++ bclose := rfl
  obtain ⟨e1, rfl, e5⟩ := shape_act (Or.inr rfl) hsh
  have hfr : fr.size = 1 := role_size e1
  have hmk : mark 3 = ⟨#[63]⟩ := rfl
  have hfm : (fr ++ mark 3).size = 2 := by rw [ByteArray.size_append, mark_size]; omega
  have hl2 : bs.length + 3 + (txF kids .first).size ≤ 1048576 := by
    rw [htx] at hlen
    simp only [ByteArray.size_append, mark_size] at hlen
    have e1 : bclose.size = 1 := rfl
    omega
  obtain ⟨A, r, bc, cs, xs, ks', rfl, hbA, hnc, hcm, hbr, hxs, hlk⟩ := linked_act (Or.inr rfl) hk
  obtain ⟨a, cap, rfl, -, -⟩ := hp.ps.val
  have hb1 := alloc_below w (.cells #[.int .i64 dp, .slice a ps.length cap, .int .i64 un] ( /- t -/ 105))
  have hX := alloc_last w #[.int .i64 dp, .slice a ps.length cap, .int .i64 un] ( /- t -/ 105)
  have hbw := bu_lt hbu
  have hAB : A < w0.heap.size := hbA.lt
  have hrB : r < w0.heap.size := hbr.lt
  have hbA1 : Blk (w.alloc (.cells #[.int .i64 dp, .slice a ps.length cap, .int .i64 un] ( /- t -/ 105))) A #[.int .i64 3, .string fr, .slice (some ⟨r, 0, none⟩) kids.len bc] := (hbA.below hw).below hb1
  have a0 : (w.alloc (.cells #[.int .i64 dp, .slice a ps.length cap, .int .i64 un] ( /- t -/ 105))).cell? ⟨A, 0, none⟩ = some (.int .i64 3) := hbA1.cell 0
  have a1 : (w.alloc (.cells #[.int .i64 dp, .slice a ps.length cap, .int .i64 un] ( /- t -/ 105))).cell? ⟨A, 1, none⟩ = some (.string fr) := hbA1.cell 1
  have hszw := hw.size
  have hAl : A < w.heap.size := by omega
  have hkl : kids.len ≤ 9223372036854775807 := by unfold maxLen at hcm; omega
  have hn1 : ∀ W : World, (Op.stringOp .add fr ⟨#[63]⟩).run Tryd.prog W = .ok (.string (fr ++ mark 3)) W := fun W => run_string_add_sum W _ _ (show fr.size + 1 ≤ _ by omega)
  have HBU := hide hbu
  have HL := hide hl2
  have HB1 := hide hb1
  have HX := hide hX
  have HP := hide hp
  have HND := hide hnd
  have HPB := hide hpb
  have HBA := hide hbA
  have HBR := hide hbr
  have HXS := hide hxs
  have HLK := hide hlk
  have HN := hide hn
  have HG := hide hbig
  have HV := hide hv
  have HW := hide hw
  have HTX := hide htx
  clear hp hbu hlen hl2 hb1 hX hnd hpb hbA hbr hxs hlk hn hbig hw hk hsh hv htx e1 e5 hbA1 hnc hcm hmk
  have n1 := taActEnd
  have n2 := taActVar
  have n3 := taActLoop
  have n4 := taActAct
  go_enter Tryd.func67, Tryd.ntmps67
  go_wp2_with fail
  generalize w.alloc (.cells #[.int .i64 dp, .slice a ps.length cap, .int .i64 un] ( /- t -/ 105)) = W0 at *
  go_still_tail 12, (by kernel_rfl)
  still_call (mark_true _)
  repeat still_step
  refine wpStill_nil ?_
  change wpList _ _ _ _ _ W0.drew
  have HB1 := hide HB1.out.drew
  have HX : Hid (W0.drew.heap[w.heap.size]? = some (.cells #[.int .i64 dp, .slice a ps.length cap, .int .i64 un] ( /- t -/ 105) (0, 0))) := HX
  generalize W0.drew = W1 at *
  go_wp2_with fail
  refine (write_string B bb bs (fr ++ mark 3) _ (bu_below HBU.out HB1.out) (by have := HL.out; omega) (Nat.le_trans hB HB1.out.size)).mono ?_
  rintro e w2 ⟨rfl, hat, hb3, ho3⟩
  have kp := ((Kp.refl B bb w).of_below hB HB1.out).trans ⟨hb3, ho3⟩
  have hX2 := (Kp.mk hb3 ho3).cells HX.out (by omega) (by decide)
  have hbA2 : Blk w2 A #[.int .i64 3, .string fr, .slice (some ⟨r, 0, none⟩) kids.len bc] := HBA.out.same ((kp.below.block A (by omega)).trans (HW.out.block A hAB))
  have b2 : w2.cell? ⟨A, 2, none⟩ = some (.slice (some ⟨r, 0, none⟩) kids.len bc) := hbA2.cell 2
  have hA2 : A < w2.heap.size := hbA2.lt
  have hB2 : B ≤ w2.heap.size := Nat.le_trans hB kp.below.size
  have hpt : Pt w2 (.slice a ps.length cap) ps := HP.out.kp HBU.out kp
  have HPT := hide hpt
  have HAT := hide hat
  have HKP := hide kp
  have HX2 := hide hX2
  clear hb3 ho3 hat kp hX2 hbA2 hpt a0 a1 hn1
  go_wp2_with fail
  go_loopw [10, 65] (fun pv iv wr => ∃ (g : F) (k : Nat) (bs' ys : List Value) (rs : List Nat), k + g.len = kids.len ∧ pv = .string (sepB k) ∧ iv = .int .i64 k ∧ g.sz ≤ kids.sz ∧ Lk w0 g ps ys rs ∧ xs.drop (k * 2) = ys ∧ vldF g ps.length 0 (d - 1) = true ∧
    bs' ++ Lib.strCells (txF g (md k)) = bs ++ Lib.strCells (fr ++ mark 3 ++ txF kids .first) ∧ Lib.IsBuilderF ( /- t -/ 83) ( /- t -/ 5) B bb bs' wr ∧ Kp B bb w2 wr) (fun _ iv _ => kids.len - (intOf iv).toNat)
  case atStart => exact ⟨kids, 0, bs ++ Lib.strCells (fr ++ mark 3), xs, ks', by omega, rfl, rfl, Nat.le_refl _, HLK.out, rfl, HV.out, by rw [strCells_append (fr ++ mark 3), List.append_assoc]; rfl, Or.inr HAT.out, Kp.refl _ _ _⟩
  case round =>
    obtain ⟨g, k, bs', ys, rs, hk, rfl, rfl, h5, hg, hys, hv, htx, hbu, kpr⟩ := hrel
    have hlen' := congrArg List.length htx
    simp only [List.length_append, Lib.strCells_length, ByteArray.size_append, hfr, mark_size] at hlen'
    have HLB := hide hlen'
    have HTX2 := hide htx
    have HBR2 := hide hbu
    have HKR := hide kpr
    have hBr : B ≤ wr.heap.size := Nat.le_trans hB2 kpr.below.size
    cases g with
    | nil =>
      have H5 : Hid (k = kids.len) := by unfold Hid; simpa [F.len] using hk
      have hge : kids.len ≤ k := Nat.le_of_eq H5.out.symm
      clear hk htx hv hbu kpr hlen' hg hys
      go_wp2_with fail
      refine (write_byte B bb bs' 125 _ HBR2.out (by have h1 := HLB.out; have h2 := HL.out; omega) hBr).mono ?_
      rintro e w3 ⟨rfl, hat3, hb3, ho3⟩
      go_wp2_with fail
      go_end0
      refine ⟨rfl, ?_, (HKP.out.trans HKR.out).trans ⟨hb3, ho3⟩⟩
      rw [HTX.out, strCells_append, ← List.append_assoc, ← HTX2.out]
      have e9 : Lib.strCells (txF F.nil (md k)) = [] := rfl
      rw [e9, List.append_nil]
      exact Or.inr hat3
    | cons lab kd fr' ix' kids' rest =>
      rw [txF_md] at htx
      have hlt : k < kids.len := by simp only [F.len] at hk; omega
      obtain ⟨T, x, ys', k1, r1, q0, q1, hln, hrest, hdrop⟩ := linked_next hg hys HBR.out HXS.out
      have kpw := HKP.out.trans kpr
      have hst : ∀ o v, w0.cell? ⟨r, o, none⟩ = some v → wr.cell? ⟨r, o, none⟩ = some v := fun o v h => by
        rw [Same.cell ((kpw.below.block r (by omega)).trans (HW.out.block r hrB))]
        exact h
      have q0 := hst _ _ q0
      have q1 := hst _ _ q1
      have hrr : r < wr.heap.size := World.block_lt_of_cell? _ _ q0
      simp only [vldF, Bool.and_eq_true] at hv
      have HK := hide hk
      have HX3 := hide htx
      have HLN := hide hln
      have HRE := hide hrest
      have HDR := hide hdrop
      have HVN := hide hv
      have H5 := hide h5
      have hz : bs'.length + 1 + lab.size + (txN kd fr' ix' kids').size ≤ 1048576 := by
        have h1 := HLB.out
        have h2 := HL.out
        rw [txF_md] at h1
        simp only [ByteArray.size_append, sepB_size] at h1
        omega
      have hsl : (sepB k).size = 1 := sepB_size k
      have HZ := hide hz
      have hls : lab.size ≤ 1048576 := by omega
      have hn2 : ∀ W : World, (Op.stringOp .add (sepB k) lab).run Tryd.prog W = .ok (.string (sepB k ++ lab)) W := fun W => run_string_add_sum W _ _ (by rw [hsl]; omega)
      have hptr := HPT.out.kp (Or.inr HAT.out) kpr
      have HPR := hide hptr
      have hb4 := alloc_below wr (.cells #[.string lab, .iface T x] ( /- t -/ 178))
      have hcl := alloc_last wr #[.string lab, .iface T x] ( /- t -/ 178)
      have hbbr : bb < wr.heap.size := Nat.lt_of_lt_of_le hbw (Nat.le_trans HKP.out.below.size kpr.below.size)
      have hXr := kpr.cells HX2.out (by omega) (by decide)
      have HXR := hide hXr
      have HCL := hide hcl
      have HB4 := hide hb4
      clear hk h5 hg hys htx hv hbu kpr hlen' hz hst hln hrest hdrop kpw hptr hb4 hcl hXr
      go_wp2_with fail
      refine (write_string B bb bs' (sepB k ++ lab) _ (bu_below HBR2.out HB4.out) (by have := HZ.out; rw [ByteArray.size_append, hsl]; omega) (Nat.le_trans hBr HB4.out.size)).mono ?_
      rintro e w4 ⟨rfl, hat4, hb5, ho5⟩
      have kp4 := (HKR.out.of_below hBr HB4.out).trans ⟨hb5, ho5⟩
      have kp34 := ((Kp.refl B bb wr).of_below hBr HB4.out).trans ⟨hb5, ho5⟩
      have hY := (Kp.mk hb5 ho5).cells HCL.out (by omega) (by decide)
      have z1 : w4.cell? ⟨wr.heap.size, 1, none⟩ = some (.iface T x) := cell_of_heap (o := 1) hY
      have hYl : wr.heap.size < w4.heap.size := World.block_lt_of_cell? _ _ z1
      have hX4 := kp34.cells HXR.out (by omega) (by decide)
      have x0 : w4.cell? ⟨w.heap.size, 0, none⟩ = some (.int .i64 dp) := cell_of_heap (o := 0) hX4
      have x1 : w4.cell? ⟨w.heap.size, 1, none⟩ = some (.slice a ps.length cap) := cell_of_heap (o := 1) hX4
      have x2 : w4.cell? ⟨w.heap.size, 2, none⟩ = some (.int .i64 un) := cell_of_heap (o := 2) hX4
      have hXl : w.heap.size < w4.heap.size := World.block_lt_of_cell? _ _ x0
      have hB4 : B ≤ w4.heap.size := Nat.le_trans hBr kp34.below.size
      have hptd : Pt w4.drew (.slice a ps.length cap) ps := HPR.out.kp HBR2.out kp34.drew
      have HPTD := hide hptd
      have hbud : Lib.IsBuilderF ( /- t -/ 83) ( /- t -/ 5) B bb (bs' ++ Lib.strCells (sepB k ++ lab)) w4.drew := Or.inr hat4
      have HBUD := hide hbud
      have hYd : w4.drew.heap[wr.heap.size]? = some (.cells #[.string lab, .iface T x] ( /- t -/ 178) (0, 0)) := hY
      have hXd : w4.drew.heap[w.heap.size]? = some (.cells #[.int .i64 dp, .slice a ps.length cap, .int .i64 un] ( /- t -/ 105) (0, 0)) := hX4
      have HYD := hide hYd
      have HXD := hide hXd
      have HKP4 := hide kp4
      have hneY : wr.heap.size ≠ bb := by omega
      have hneX : w.heap.size ≠ bb := by omega
      clear q0 q1 hb5 ho5 hat4 kp4 kp34 hY hX4 hptd hbud hYd hXd hn2
      go_wp2_with fail
      go_region_held3 (fun w' => w'.cell? ⟨wr.heap.size, 1, none⟩ = some (.iface T x) ∧ w'.cell? ⟨w.heap.size, 0, none⟩ = some (.int .i64 dp) ∧ w'.cell? ⟨w.heap.size, 1, none⟩ = some (.slice a ps.length cap) ∧ w'.cell? ⟨w.heap.size, 2, none⟩ = some (.int .i64 un))
        (first | exact ⟨z1, x0, x1, x2⟩ | exact ⟨g0, g1, g2, g3⟩ | exact ⟨l0, l1, l2, l3⟩)
        ((first
          | (go_at_call 112; refine (below_calls _ dp un _ ps ?_ (by omega) (by omega)).mono ?_; (exact HPTD.out.ps);
             rintro e w5 ⟨rfl, hb6⟩; have hst := Still.of_below hb6; have g0 := hst _ _ z1; have g1 := hst _ _ x0; have g2 := hst _ _ x1; have g3 := hst _ _ x2;
             have kp5 := HKP4.out.drew.of_below hB4 hb6)
          | (go_at_call 67; refine (ih w0 _ B bb (bs' ++ Lib.strCells (sepB k ++ lab)) kd ix' 0 (d - 1) (dp + 1) 0 fr' _ _ kids' ps k1 ?_ ?_ HLN.out h0 ?_ ?_ ?_ HND.out HPB.out (by omega) (by omega) (by omega) (by omega) (by omega) (by omega) HVN.out.1 ?_ ?_).mono ?_;
             (have h1 := H5.out; have h2 := HN.out; simp only [F.sz] at h1; omega); (have h1 := H5.out; have h2 := HG.out; simp only [F.sz] at h1; omega); (exact HW.out.trans ((HKP.out.trans kp5).below.mono h0)); (exact Nat.le_trans hB4 hb6.size); (exact HPTD.out.below hb6);
             (exact bu_below HBUD.out hb6); (have := HZ.out; rw [List.length_append, Lib.strCells_length, ByteArray.size_append, hsl]; omega);
             rintro e w6 ⟨rfl, hat6, kp6⟩;
             have kpB := ((Kp.refl B bb w4.drew).of_below hB4 hb6).trans kp6;
             have hY6 := kpB.cells HYD.out hneY (by decide);
             have hX6 := kpB.cells HXD.out hneX (by decide);
             have l0 : w6.cell? ⟨wr.heap.size, 1, none⟩ = some (.iface T x) := cell_of_heap (o := 1) hY6;
             have l1 : w6.cell? ⟨w.heap.size, 0, none⟩ = some (.int .i64 dp) := cell_of_heap (o := 0) hX6;
             have l2 : w6.cell? ⟨w.heap.size, 1, none⟩ = some (.slice a ps.length cap) := cell_of_heap (o := 1) hX6;
             have l3 : w6.cell? ⟨w.heap.size, 2, none⟩ = some (.int .i64 un) := cell_of_heap (o := 2) hX6)))
      have hkpf := kp5.trans kp6
      have HF := hide hkpf
      have HAT6 := hide hat6
      clear hst g0 g1 g2 g3 l0 l1 l2 l3 hY6 hX6 kpB kp5 kp6 hkpf hat6 hb6 z1 x0 x1 x2
      go_wp2_with fail
      refine ⟨⟨rest, k + 1, bs' ++ Lib.strCells (sepB k ++ lab) ++ Lib.strCells (txN kd fr' ix' kids'), ys', r1, ?_, ?_, by go_num, ?_, HRE.out, HDR.out, HVN.out.2, ?_, HAT6.out, HF.out⟩, by simp [intOf]; omega⟩
      · have := HK.out
        simp only [F.len] at this
        omega
      · unfold sepB
        rw [if_neg (by omega)]
        rfl
      · have := H5.out
        simp only [F.sz] at this
        omega
      · rw [← HX3.out]
        simp only [strCells_append, List.append_assoc]

theorem wl_all : ∀ n, WlAt n := by
  intro n
  induction n with
  | zero => intro w0 w B bb bs k ix u d dp un fr v lv kids ps ks hn; omega
  | succ n ih =>
    intro w0 w B bb bs k ix u d dp un fr v lv kids ps ks hn hbig hk h0 hw hB hp hnd hpb hu hbd hdp hdd hun hund hv hbu hlen
    have hv2 := hv
    unfold vldN at hv2
    obtain ⟨hd, hsh, hkk⟩ := node_kinds hu hv2
    rcases hkk with rfl | ⟨rfl, hi, hi1, -⟩ | ⟨rfl, h3⟩ | ⟨h2, h3⟩
    · rcases hk with ⟨-, rfl, -⟩ | ⟨h, -⟩ | ⟨h, -⟩ | ⟨h, -⟩
      · exact wl_end w B bb bs ix dp un fr lv kids ps hB hp hbu hlen
      · exact absurd h (by decide)
      · exact absurd h (by decide)
      · rcases h with h | h <;> exact absurd h (by decide)
    · rcases hk with ⟨h, -⟩ | ⟨-, ⟨l, h1, h2, h3, rfl⟩, -⟩ | ⟨h, -⟩ | ⟨h, -⟩
      · exact absurd h (by decide)
      · obtain ⟨i, rfl⟩ := Int.eq_ofNat_of_zero_le h1
        exact wl_var w0 w B bb bs i (ps.length - 1 - i) l dp un fr lv kids ps hB hw hp hnd hpb (by simpa using h3) (by omega) (by omega) hbu hlen
      · exact absurd h (by decide)
      · rcases h with h | h <;> exact absurd h (by decide)
    · exact wl_rec n ih w0 w B bb bs ix u d dp un fr v lv kids ps ks hn hbig hk h0 hw hB hp hnd hpb hu hd hbd hdp hdd hun hund hsh h3 hbu hlen
    · rcases h2 with rfl | rfl
      · exact wl_act2 n ih w0 w B bb bs ix d dp un fr v lv kids ps ks hn hbig hk h0 hw hB hp hnd hpb hd hbd hdp hdd hsh h3 hbu hlen
      · exact wl_act3 n ih w0 w B bb bs ix d dp un fr v lv kids ps ks hn hbig hk h0 hw hB hp hnd hpb hd hbd hdp hdd hsh h3 hbu hlen

theorem string_any (B b : Nat) (s : ByteArray) (w : World) (h : Lib.IsBuilderF ( /- t -/ 83) ( /- t -/ 5) B b (Lib.strCells s) w) (hBw : B ≤ w.heap.size) :
    Calls Tryd.prog 51 #[.pointer (some ⟨b, 0, none⟩)] w fun e w' => e = .returned (.string s) ∧ Below B w w' := by
  refine (Tryd.Builder_String_any_k B b s.data.toList w h hBw).mono ?_
  rintro e w' ⟨rfl, -, hb, -⟩
  exact ⟨rfl, hb⟩

set_option maxHeartbeats 400000 in
set_option maxRecDepth 100000 in
/-- FormatLocal of the program. -/
theorem implFormat (w : World) (k ix : Int) (fr : ByteArray) (sv : Value) (kids : F) (hs : Sl w sv kids) :
    Calls Tryd.prog 27 #[.agg #[.int .i64 k, .string fr, .int .i64 ix, sv]] w fun e w' => e = .returned (.string (textN k fr ix kids)) ∧ Below w.heap.size w w' := by
  have HS := hide hs
  clear hs
  go_enter Tryd.func27, Tryd.ntmps27
  go_wp2_with fail
  refine (implLink _ k ix fr sv kids (HS.out.still (Still.of_below (alloc_below _ _)))).mono ?_
  rintro e w1 ⟨u, ks, rfl, hu, hb, hok⟩
  have hb2 := alloc_then hb
  have HOK := hide hok
  clear hb hok
  cases hv : okN k fr ix kids with
  | false =>
    have HU := hide hu
    clear hu
    go_wp2_with fail
    go_ret
    refine ⟨?_, hb2⟩
    unfold textN
    rw [hv]
    rfl
  | true =>
    have HV := hide hv
    have h2 := hv
    unfold okN at h2
    simp only [Bool.and_eq_true, decide_eq_true_eq] at h2
    have H2 := hide h2
    have hln := (HOK.out hv).1
    have HLN := hide hln
    obtain ⟨T, x, rfl⟩ := hln.val
    have hbu : Lib.IsBuilderF ( /- t -/ 83) ( /- t -/ 5) w1.heap.size w1.heap.size [] (w1.alloc (.cells #[.pointer none, .slice none 0 0] ( /- t -/ 83))) := Lib.IsBuilderF.of (Lib.fresh_isBuilder _ _ _)
    have HBU := hide hbu
    have hb3 := alloc_below w1 (.cells #[.pointer none, .slice none 0 0] ( /- t -/ 83))
    have hsz := txN_size (b := 0) (u := 0) (by omega) (by omega) (by omega) h2.1
    have HZ : Hid ((txN k fr ix kids).size ≤ 1048576) := by unfold Hid; omega
    clear hv h2 hbu hsz hln hu
    go_wp2_with fail
    refine (wl_all (kids.sz + 1) w1 _ w1.heap.size w1.heap.size [] k ix 0 40 0 0 fr _ _ kids [] ks (Nat.lt_succ_self _) (by have := H2.out.2; omega) HLN.out (Nat.le_refl _) hb3 hb3.size (Pt.nil _) List.nodup_nil (fun x h => absurd h (List.not_mem_nil)) (by omega) (by simp) (by omega) (by omega) (by omega) (by omega) H2.out.1 HBU.out (by have := HZ.out; simpa using this)).mono ?_
    rintro e w2 ⟨rfl, hat, kp⟩
    have hb4 := hb3.trans kp.below
    have HAT := hide hat
    clear kp hat hb3
    go_wp2_with fail
    refine (string_any w1.heap.size w1.heap.size (txN k fr ix kids) w2 HAT.out hb4.size).mono ?_
    rintro e w3 ⟨rfl, hb5⟩
    have hb6 := hb2.trans ((hb4.trans hb5).mono hb2.size)
    clear hb4 hb5
    go_wp2_with fail
    go_ret
    refine ⟨?_, hb6⟩
    unfold textN
    rw [HV.out]
    rfl
end Go.Proofs.YtfppglfajbmapaaDoor.Lo
