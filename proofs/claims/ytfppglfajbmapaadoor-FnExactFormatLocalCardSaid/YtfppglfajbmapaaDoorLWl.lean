/- writeLinked of the program. -/
import Derived.Test.YtfppglfajbmapaaDoorLIx
import Derived.Test.YtfppglfajbmapaaDoorLKt
import Derived.Test.YtfppglfajbmapaaDoorLLb
import Derived.Test.YtfppglfajbmapaaDoorLTx
import Derived.Test.YtfppglfajbmapaaDoorKp
import Derived.Test.YtfppglfajbmapaaDoorBl
namespace Go.Proofs.YtfppglfajbmapaaDoor.Lo
open Go.RowKit

/-- A scope's row is none of the builder's blocks. -/
theorem Pt.kp {w w' : World} {v : Value} {ps : List Nat} {B bb : Nat} {bs : List Value} (h : Pt w v ps) (hb : Lib.IsBuilderF ( /- t -/ 83) ( /- t -/ 5) B bb bs w) (hk : Kp B bb w w') : Pt w' v ps := by
  refine h.keep fun b cs hc => hk.cells hc ?_ (by decide)
  rintro rfl
  rcases hb with hb | hb
  · obtain ⟨-, v', h2, -⟩ := hb
    rw [hc] at h2
    injection h2 with h2
    injection h2 with _ h2
    exact absurd h2 (by decide)
  · obtain ⟨-, v', h2, -⟩ := hb
    rw [hc] at h2
    injection h2 with h2
    injection h2 with _ h2
    exact absurd h2 (by decide)
theorem bu_lt {w : World} {B bb : Nat} {bs : List Value} (hb : Lib.IsBuilderF ( /- t -/ 83) ( /- t -/ 5) B bb bs w) : bb < w.heap.size := by
  rcases hb with h | h
  · exact h.lt
  · exact h.lt

/-- What writeLinked owes. -/
def WlPost (w : World) (B bb : Nat) (bs : List Value) (t : ByteArray) (e : Ending) (w' : World) : Prop :=
  e = .returned (.tuple #[]) ∧ Lib.IsBuilderF ( /- t -/ 83) ( /- t -/ 5) B bb (bs ++ Lib.strCells t) w' ∧ Kp B bb w w'

def WlAt (n : Nat) : Prop := ∀ (w0 w : World) (B bb : Nat) (bs : List Value) (k ix u d dp un : Int) (fr : ByteArray) (v lv : Value) (kids : F) (ps ks : List Nat), kids.sz < n → kids.sz ≤ 400 → LkN w0 k fr ix kids ps v ks → w0.heap.size ≤ B → Below w0.heap.size w0 w → B ≤ w.heap.size →
  Pt w lv ps → ps.Nodup → (∀ x, x ∈ ps → ∃ cs, Blk w0 x cs) → 0 ≤ u → ps.length + d ≤ 40 → 0 ≤ dp → dp + d ≤ 40 → 0 ≤ un → un ≤ dp → vldN k fr ix kids ps.length u d = true → Lib.IsBuilderF ( /- t -/ 83) ( /- t -/ 5) B bb bs w → bs.length + (txN k fr ix kids).size ≤ 1048576 →
  Calls Tryd.prog 67 #[.pointer (some ⟨bb, 0, none⟩), v, .agg #[.int .i64 dp, lv, .int .i64 un]] w (WlPost w B bb bs (txN k fr ix kids))

set_option maxHeartbeats 400000 in
set_option maxRecDepth 100000 in
theorem wl_end (w : World) (B bb : Nat) (bs : List Value) (ix dp un : Int) (fr : ByteArray) (lv : Value) (kids : F) (ps : List Nat) (hB : B ≤ w.heap.size) (hp : Pt w lv ps) (hbu : Lib.IsBuilderF ( /- t -/ 83) ( /- t -/ 5) B bb bs w) (hlen : bs.length + (txN 1 fr ix kids).size ≤ 1048576) :
    Calls Tryd.prog 67 #[.pointer (some ⟨bb, 0, none⟩), .iface ( /- t -/ 193) (.agg #[]), .agg #[.int .i64 dp, lv, .int .i64 un]] w (WlPost w B bb bs (txN 1 fr ix kids)) := by
  obtain ⟨a, cap, rfl, -, -⟩ := hp.ps.val
  have h5 : 1 ≤ 1048576 - bs.length ∧ bs.length ≤ 1048576 := by
    have e1 : (txN 1 fr ix kids).size = 1 := rfl
    omega
  have hb1 := alloc_below w (.cells #[.int .i64 dp, .slice a ps.length cap, .int .i64 un] ( /- t -/ 105))
  have hb2 := hb1.alloc hb1.size (.cells #[] ( /- t -/ 193))
  have HBU := hide hbu
  have HB2 := hide hb2
  clear hp hbu hlen hb1 hb2
  have n1 := taEndEnd
  go_enter Tryd.func67, Tryd.ntmps67
  go_wp2_with fail
  refine (write_byte B bb bs 46 _ (bu_below HBU.out HB2.out) (by omega) (Nat.le_trans hB HB2.out.size)).mono ?_
  rintro e w2 ⟨rfl, hat, hb3, ho3⟩
  go_wp2_with fail
  go_end0
  exact ⟨rfl, Or.inr hat, ((Kp.refl B bb w).of_below hB HB2.out).trans ⟨hb3, ho3⟩⟩

set_option maxHeartbeats 400000 in
set_option maxRecDepth 100000 in
theorem wl_var (w0 w : World) (B bb : Nat) (bs : List Value) (i j l : Nat) (dp un : Int) (fr : ByteArray) (lv : Value) (kids : F) (ps : List Nat) (hB : B ≤ w.heap.size) (hw : Below w0.heap.size w0 w) (hp : Pt w lv ps) (hnd : ps.Nodup) (hpb : ∀ x, x ∈ ps → ∃ cs, Blk w0 x cs) (hl : ps[j]? = some l) (hj : ps.length = j + 1 + i) (h40 : ps.length ≤ 40)
    (hbu : Lib.IsBuilderF ( /- t -/ 83) ( /- t -/ 5) B bb bs w) (hlen : bs.length + (txN 5 fr i kids).size ≤ 1048576) :
    Calls Tryd.prog 67 #[.pointer (some ⟨bb, 0, none⟩), .iface ( /- t -/ 196) (.agg #[.pointer (some ⟨l, 0, none⟩)]), .agg #[.int .i64 dp, lv, .int .i64 un]] w (WlPost w B bb bs (txN 5 fr i kids)) := by
  have hi40 : i < 40 := by omega
  have h2 : (bdec i).size ≤ 2 := by
    have := decDigits_small (i := i) (by omega)
    simpa [bdec, ByteArray.size] using this
  have e1 : (⟨(Lib.decDigits i).toArray⟩ : ByteArray) = bdec i := rfl
  obtain ⟨a, cap, rfl, -, -⟩ := hp.ps.val
  have h5 : bs.length + (bhash ++ bdec i).size ≤ 1048576 := hlen
  have H5 := hide h5
  have hb1 := alloc_below w (.cells #[.int .i64 dp, .slice a ps.length cap, .int .i64 un] ( /- t -/ 105))
  have hb2 := hb1.alloc hb1.size (.cells #[.pointer (some ⟨l, 0, none⟩)] ( /- t -/ 196))
  have HBU := hide hbu
  have HB2 := hide hb2
  have HP := hide hp
  have HND := hide hnd
  have HPB := hide hpb
  have HL := hide hl
  have HJ := hide hj
  clear hp hbu hlen hb1 hb2 hnd hpb hl hj h5
  have n1 := taVarEnd
  have n2 := taVarVar
  go_enter Tryd.func67, Tryd.ntmps67
  go_wp2_with fail
  refine (idx_calls _ dp un _ ps l i j ((HP.out.below HB2.out).ps) HND.out HL.out HJ.out (by omega) (fun x hx => by obtain ⟨cs, h⟩ := HPB.out x hx; exact ⟨cs, (h.below hw).below HB2.out⟩)).mono ?_
  rintro e w1 ⟨rfl, hb3⟩
  have HB3 := hide (HB2.out.trans (hb3.mono HB2.out.size))
  clear hb3
  go_wp2_with fail
  refine (Tryd.strconv_Itoa_small i (by omega) _).mono ?_
  rintro e w3 ⟨rfl, rfl⟩
  rw [e1]
  go_wp2_with fail
  refine (write_string B bb bs (bhash ++ bdec i) _ (bu_below HBU.out HB3.out) (by have := H5.out; omega) (Nat.le_trans hB HB3.out.size)).mono ?_
  rintro e w2 ⟨rfl, hat, hb3, ho3⟩
  go_wp2_with fail
  go_end0
  exact ⟨rfl, Or.inr hat, ((Kp.refl B bb w).of_below hB HB3.out).trans ⟨hb3, ho3⟩⟩

end Go.Proofs.YtfppglfajbmapaaDoor.Lo
