/- WriteRune of strings.Builder at this program: the shelf's contract laid by hand (as WriteByte's and WriteString's). -/
import Derived.Test.YtfppglfajbmapaaDoorBl
import Derived.Shelf.Strings.BuilderRune
namespace Go.Proofs.YtfppglfajbmapaaDoor
open Go.RowKit

/-- The table of numbers. -/
def Tryd.br_ren : Go.Shelf.Ren := ⟨fun | 168 => ( /- f -/ 105) | 240 => ( /- f -/ 147) | 242 => ( /- f -/ 154) | 276 => ( /- f -/ 175) | 278 => ( /- f -/ 182) | n => n, fun | 0 => ( /- t -/ 0) | 3 => ( /- t -/ 3) | 4 => ( /- t -/ 4) | 5 => ( /- t -/ 5) | 9 => ( /- t -/ 9) | 20 => ( /- t -/ 20) | 21 => ( /- t -/ 21) | 37 => ( /- t -/ 22) | 46 => ( /- t -/ 250) | 51 => ( /- t -/ 258) | 70 => ( /- t -/ 81) | 72 => ( /- t -/ 83) | 75 => ( /- t -/ 152) | 80 => ( /- t -/ 85) | 164 => ( /- t -/ 251) | n => n, fun n => n⟩
theorem Tryd.br_lays168 : Go.Proofs.Lays.n168 Tryd.prog Tryd.br_ren where
  mixed := by kernel_rfl
  f168 := Tryd.func105.trans (congrArg some (by kernel_rfl))
  f240 := Tryd.func147.trans (congrArg some (by kernel_rfl))
  f242 := Tryd.func154.trans (congrArg some (by kernel_rfl))
  f276 := Tryd.func175.trans (congrArg some (by kernel_rfl))
  f278 := Tryd.func182.trans (congrArg some (by kernel_rfl))
  t0 := Tryd.underlying0
  a0 := Tryd.isAgg0
  z0 := Tryd.sizeOf0
  v0 := Tryd.zeroValue0
  t3 := Tryd.underlying3
  a3 := Tryd.isAgg3
  z3 := Tryd.sizeOf3
  v3 := Tryd.zeroValue3
  t4 := Tryd.underlying4
  a4 := Tryd.isAgg4
  z4 := Tryd.sizeOf4
  v4 := Tryd.zeroValue4
  t5 := Tryd.underlying5
  a5 := Tryd.isAgg5
  z5 := Tryd.sizeOf5
  v5 := Tryd.zeroValue5
  t9 := Tryd.underlying9
  a9 := Tryd.isAgg9
  z9 := Tryd.sizeOf9
  v9 := Tryd.zeroValue9
  t20 := Tryd.underlying20
  a20 := Tryd.isAgg20
  z20 := Tryd.sizeOf20
  v20 := Tryd.zeroValue20
  t21 := Tryd.underlying21
  a21 := Tryd.isAgg21
  z21 := Tryd.sizeOf21
  v21 := Tryd.zeroValue21
  t37 := Tryd.underlying22
  a37 := Tryd.isAgg22
  z37 := Tryd.sizeOf22
  v37 := Tryd.zeroValue22
  t46 := Tryd.underlying250
  a46 := Tryd.isAgg250
  z46 := Tryd.sizeOf250
  v46 := Tryd.zeroValue250
  t51 := Tryd.underlying258
  a51 := Tryd.isAgg258
  z51 := Tryd.sizeOf258
  v51 := Tryd.zeroValue258
  t70 := Tryd.underlying81
  a70 := Tryd.isAgg81
  z70 := Tryd.sizeOf81
  v70 := Tryd.zeroValue81
  t72 := Tryd.underlying83
  a72 := Tryd.isAgg83
  z72 := Tryd.sizeOf83
  v72 := Tryd.zeroValue83
  t75 := Tryd.underlying152
  a75 := Tryd.isAgg152
  z75 := Tryd.sizeOf152
  v75 := Tryd.zeroValue152
  t164 := Tryd.underlying251
  a164 := Tryd.isAgg251
  z164 := Tryd.sizeOf251
  v164 := Tryd.zeroValue251
theorem Tryd.br_extra : Builder.Extra Tryd.prog Tryd.br_ren where
  sizeBuilder := by kernel_rfl
  liesBuilder := by kernel_rfl
  t5 := Tryd.underlying5
  a5 := Tryd.isAgg5
  z5 := Tryd.sizeOf5
  v5 := Tryd.zeroValue5
  infoByte := by kernel_rfl
  cellsByte := by kernel_rfl
  sizeByte := by kernel_rfl
  neB5 := by decide

theorem write_rune (B b : Nat) (bs : List Value) (r : Int) (hr0 : 0 ≤ r) (hr1 : r ≤ 127) (w : World) (h : Lib.IsBuilderF ( /- t -/ 83) ( /- t -/ 5) B b bs w) (hlen : bs.length + 4 ≤ 140737488355328) (hBw : B ≤ w.heap.size) :
    Calls Tryd.prog 105 #[.pointer (some ⟨b, 0, none⟩), .int .i32 r] w fun e w' => e = .returned (.tuple #[.int .i64 1, .nilIface]) ∧ (Lib.BuilderAtF ( /- t -/ 83) ( /- t -/ 5) B b (.pointer (some ⟨b, 0, none⟩)) (bs ++ [.int .u8 r]) w' ∧ Below B w w' ∧ Lib.OthersKept ( /- t -/ 5) (some b) w w') := by
  have e : Lib.runeCells r = [.int .u8 r] := by
    unfold Lib.runeCells
    rw [Lib.encodeRuneZ_one hr0 hr1]
    rfl
  have := Any.Builder_WriteRune_k Tryd.br_lays168 Tryd.br_extra B b bs r (by omega) (by omega) w h hlen hBw
  rw [e] at this
  exact this
end Go.Proofs.YtfppglfajbmapaaDoor
