/- writeLinked of the program: recursions. -/
import Derived.Test.YtfppglfajbmapaaDoorLWl
import Derived.Deep.RegionHeld3
namespace Go.Proofs.YtfppglfajbmapaaDoor.Lo
open Go.RowKit

set_option maxHeartbeats 3200000 in
set_option maxRecDepth 100000 in
theorem wl_rec (n : Nat) (ih : WlAt n) (w0 w : World) (B bb : Nat) (bs : List Value) (ix u d dp un : Int) (fr : ByteArray) (v lv : Value) (kids : F) (ps ks : List Nat) (hn : kids.sz < n + 1) (hbig : kids.sz ≤ 400) (hk : LkN w0 4 fr ix kids ps v ks) (h0 : w0.heap.size ≤ B) (hw : Below w0.heap.size w0 w) (hB : B ≤ w.heap.size)
    (hp : Pt w lv ps) (hnd : ps.Nodup) (hpb : ∀ x, x ∈ ps → ∃ cs, Blk w0 x cs) (hu : 0 ≤ u) (hd1 : 1 ≤ d) (hbd : ps.length + d ≤ 40) (hdp : 0 ≤ dp) (hdd : dp + d ≤ 40) (hun : 0 ≤ un) (hund : un ≤ dp) (hsh : shapeB 4 fr ix kids = true) (hv : vldF kids (ps.length + 1) (u + 1) (d - 1) = true)
    (hbu : Lib.IsBuilderF ( /- t -/ 83) ( /- t -/ 5) B bb bs w) (hlen : bs.length + (txN 4 fr ix kids).size ≤ 1048576) :
    Calls Tryd.prog 67 #[.pointer (some ⟨bb, 0, none⟩), v, .agg #[.int .i64 dp, lv, .int .i64 un]] w (WlPost w B bb bs (txN 4 fr ix kids)) := by
  obtain ⟨e1, rfl, lab, k', fr', ix', kids', rfl, e3⟩ := shape_rec hsh
  have hvn : vldN k' fr' ix' kids' (ps.length + 1) (u + 1) (d - 1) = true := by
    simp only [vldF, Bool.and_true] at hv
    exact hv
  have htx : txN 4 fr 0 (.cons lab k' fr' ix' kids' .nil) = bat ++ txN k' fr' ix' kids' := rfl
  rw [htx] at hlen ⊢
  have hl2 : bs.length + 1 + (txN k' fr' ix' kids').size ≤ 1048576 := by
    rw [ByteArray.size_append] at hlen
    have e1 : bat.size = 1 := rfl
    omega
  obtain ⟨L, T, x, ks', rfl, hbL, hLp, hln⟩ := linked_rec hk
  obtain ⟨a, cap, rfl, -, -⟩ := hp.ps.val
  have hb1 := alloc_below w (.cells #[.int .i64 dp, .slice a ps.length cap, .int .i64 un] ( /- t -/ 105))
  have hX := alloc_last w #[.int .i64 dp, .slice a ps.length cap, .int .i64 un] ( /- t -/ 105)
  have hbw := bu_lt hbu
  have HBU := hide hbu
  have HL := hide hl2
  have HB1 := hide hb1
  have HX := hide hX
  have HP := hide hp
  have HND := hide hnd
  have HPB := hide hpb
  have HBL := hide hbL
  have HLP := hide hLp
  have HLN := hide hln
  have HN := hide hn
  have HG := hide hbig
  have HVN := hide hvn
  have HW := hide hw
  clear hp hbu hlen hl2 hb1 hX hnd hpb hbL hLp hln hn hbig hvn hw hk hsh hv htx e1 e3
  have n1 := taLoopEnd
  have n2 := taLoopVar
  have n3 := taLoopLoop
  go_enter Tryd.func67, Tryd.ntmps67
  go_wp2_with fail
  refine (write_byte B bb bs 64 _ (bu_below HBU.out HB1.out) (by have := HL.out; omega) (Nat.le_trans hB HB1.out.size)).mono ?_
  rintro e w2 ⟨rfl, hat, hb3, ho3⟩
  have kp := ((Kp.refl B bb w).of_below hB HB1.out).trans ⟨hb3, ho3⟩
  have hX2 := (Kp.mk hb3 ho3).cells HX.out (by omega) (by decide)
  have x0 := cell_of_heap (o := 0) hX2
  have x1 := cell_of_heap (o := 1) hX2
  have x2 := cell_of_heap (o := 2) hX2
  simp only [List.getElem?_toArray, List.getElem?_cons_zero, List.getElem?_cons_succ] at x0 x1 x2
  have hXl : w.heap.size < w2.heap.size := World.block_lt_of_cell? _ _ x0
  have hLB : L < w0.heap.size := HBL.out.lt
  have hbL2 : Blk w2 L #[.iface T x] := HBL.out.same ((kp.below.block L (by omega)).trans (HW.out.block L hLB))
  have y0 : w2.cell? ⟨L, 0, none⟩ = some (.iface T x) := hbL2.cell 0
  have hLl : L < w2.heap.size := hbL2.lt
  have hB2 : B ≤ w2.heap.size := Nat.le_trans hB kp.below.size
  have hpt : Pt w2 (.slice a ps.length cap) ps := HP.out.kp HBU.out kp
  have HPT := hide hpt
  have HAT := hide hat
  have HKP := hide kp
  have HX2 := hide hX2
  have hptd : Ps w2.drew (.slice a ps.length cap) ps := hpt.ps
  have HPTD := hide hptd
  have hbud : Lib.IsBuilderF ( /- t -/ 83) ( /- t -/ 5) B bb (bs ++ [.int .u8 64]) w2.drew := Or.inr hat
  have HBUD := hide hbud
  have hX2d : w2.drew.heap[w.heap.size]? = some (.cells #[.int .i64 dp, .slice a ps.length cap, .int .i64 un] ( /- t -/ 105) (0, 0)) := hX2
  have HX2D := hide hX2d
  have hbwX : w.heap.size ≠ bb := by omega
  clear hb3 ho3 hat kp hX2 hbL2 hpt hptd hbud hX2d HX2
  go_wp2_with fail
  go_region_held3 (fun w' => w'.cell? ⟨L, 0, none⟩ = some (.iface T x) ∧ w'.cell? ⟨w.heap.size, 0, none⟩ = some (.int .i64 dp) ∧ w'.cell? ⟨w.heap.size, 1, none⟩ = some (.slice a ps.length cap) ∧ w'.cell? ⟨w.heap.size, 2, none⟩ = some (.int .i64 un))
    (first | exact ⟨y0, x0, x1, x2⟩ | exact ⟨g0, g1, g2, g3⟩ | exact ⟨l0, l1, l2, l3⟩)
    ((first
      | (go_at_call 110; refine (ins_calls _ dp un _ ps L ?_ (by omega) (by omega) (by omega) (by omega) (by omega)).mono ?_; (exact HPTD.out);
         rintro e w3 ⟨v', cap', rfl, hp3, hb3⟩; have hst := Still.of_below hb3; have g0 := hst _ _ y0; have g1 := hst _ _ x0; have g2 := hst _ _ x1; have g3 := hst _ _ x2;
         have kp3 := HKP.out.drew.of_below hB2 hb3)
      | (go_at_call 67; refine (ih w0 _ B bb (bs ++ [.int .u8 64]) k' ix' (u + 1) (d - 1) (dp + 1) (un + 1) fr' _ _ kids' (ps ++ [L]) ks' ?_ ?_ HLN.out h0 ?_ ?_ ?_ (nodup_snoc HND.out HLP.out) ?_ (by omega) (by simp; omega) (by omega) (by omega) (by omega) (by omega) ?_ ?_ ?_).mono ?_;
         (have := HN.out; simp only [F.sz] at this; omega); (have := HG.out; simp only [F.sz] at this; omega); (exact HW.out.trans (kp3.below.mono h0)); (exact Nat.le_trans hB kp3.below.size); (exact hp3);
         (intro y hy; rcases List.mem_append.1 hy with hy | hy; exact HPB.out y hy; rw [List.mem_singleton.1 hy]; exact ⟨_, HBL.out⟩);
         (have h9 := HVN.out; rw [show (((ps ++ [L]).length : Nat) : Int) = (ps.length : Int) + 1 by simp]; exact h9); (exact bu_below HBUD.out hb3); (have := HL.out; rw [List.length_append]; show bs.length + 1 + _ ≤ _; omega);
         rintro e w4 ⟨rfl, hat4, kp4⟩;
         have kpA := kp3.trans kp4;
         have hbL4 := HBL.out.same ((kpA.below.block L (by omega)).trans (HW.out.block L hLB));
         have l0 : w4.cell? ⟨L, 0, none⟩ = some (.iface T x) := hbL4.cell 0;
         have hX4 := (((Kp.refl B bb w2.drew).of_below hB2 hb3).trans kp4).cells HX2D.out hbwX (by decide);
         have l1 : w4.cell? ⟨w.heap.size, 0, none⟩ = some (.int .i64 dp) := cell_of_heap (o := 0) hX4;
         have l2 : w4.cell? ⟨w.heap.size, 1, none⟩ = some (.slice a ps.length cap) := cell_of_heap (o := 1) hX4;
         have l3 : w4.cell? ⟨w.heap.size, 2, none⟩ = some (.int .i64 un) := cell_of_heap (o := 2) hX4)))
  go_wp2_with fail
  go_end0
  refine ⟨rfl, ?_, kpA⟩
  rw [strCells_append]
  rw [List.append_assoc] at hat4
  exact hat4
end Go.Proofs.YtfppglfajbmapaaDoor.Lo
