/- WriteRune of strings.Builder at this program: the shelf's contract laid by hand (as WriteByte's and WriteString's). -/
import Derived.Test.YtbonmdkfmgahbaaDoorBl
import Derived.Shelf.Strings.BuilderRune
namespace Go.Proofs.YtbonmdkfmgahbaaDoor
open Go.RowKit

/-- The table of numbers. -/
def Tryd.br_ren : Go.Shelf.Ren := ⟨fun | 168 => ( /- f -/ 46) | 240 => ( /- f -/ 56) | 242 => ( /- f -/ 57) | 276 => ( /- f -/ 70) | 278 => ( /- f -/ 71) | n => n, fun | 0 => ( /- t -/ 0) | 3 => ( /- t -/ 3) | 4 => ( /- t -/ 4) | 5 => ( /- t -/ 5) | 9 => ( /- t -/ 9) | 20 => ( /- t -/ 20) | 21 => ( /- t -/ 21) | 37 => ( /- t -/ 68) | 46 => ( /- t -/ 100) | 51 => ( /- t -/ 120) | 70 => ( /- t -/ 77) | 72 => ( /- t -/ 79) | 75 => ( /- t -/ 82) | 80 => ( /- t -/ 85) | 164 => ( /- t -/ 124) | n => n, fun n => n⟩
theorem Tryd.br_lays168 : Go.Proofs.Lays.n168 Tryd.prog Tryd.br_ren where
  mixed := by kernel_rfl
  f168 := Tryd.func46.trans (congrArg some (by kernel_rfl))
  f240 := Tryd.func56.trans (congrArg some (by kernel_rfl))
  f242 := Tryd.func57.trans (congrArg some (by kernel_rfl))
  f276 := Tryd.func70.trans (congrArg some (by kernel_rfl))
  f278 := Tryd.func71.trans (congrArg some (by kernel_rfl))
  t0 := Tryd.underlying0
  a0 := Tryd.isAgg0
  z0 := Tryd.sizeOf0
  v0 := Tryd.zeroValue0
  t3 := Tryd.underlying3
  a3 := Tryd.isAgg3
  z3 := Tryd.sizeOf3
  v3 := Tryd.zeroValue3
  t4 := Tryd.underlying4
  a4 := Tryd.isAgg4
  z4 := Tryd.sizeOf4
  v4 := Tryd.zeroValue4
  t5 := Tryd.underlying5
  a5 := Tryd.isAgg5
  z5 := Tryd.sizeOf5
  v5 := Tryd.zeroValue5
  t9 := Tryd.underlying9
  a9 := Tryd.isAgg9
  z9 := Tryd.sizeOf9
  v9 := Tryd.zeroValue9
  t20 := Tryd.underlying20
  a20 := Tryd.isAgg20
  z20 := Tryd.sizeOf20
  v20 := Tryd.zeroValue20
  t21 := Tryd.underlying21
  a21 := Tryd.isAgg21
  z21 := Tryd.sizeOf21
  v21 := Tryd.zeroValue21
  t37 := Tryd.underlying68
  a37 := Tryd.isAgg68
  z37 := Tryd.sizeOf68
  v37 := Tryd.zeroValue68
  t46 := Tryd.underlying100
  a46 := Tryd.isAgg100
  z46 := Tryd.sizeOf100
  v46 := Tryd.zeroValue100
  t51 := Tryd.underlying120
  a51 := Tryd.isAgg120
  z51 := Tryd.sizeOf120
  v51 := Tryd.zeroValue120
  t70 := Tryd.underlying77
  a70 := Tryd.isAgg77
  z70 := Tryd.sizeOf77
  v70 := Tryd.zeroValue77
  t72 := Tryd.underlying79
  a72 := Tryd.isAgg79
  z72 := Tryd.sizeOf79
  v72 := Tryd.zeroValue79
  t75 := Tryd.underlying82
  a75 := Tryd.isAgg82
  z75 := Tryd.sizeOf82
  v75 := Tryd.zeroValue82
  t164 := Tryd.underlying124
  a164 := Tryd.isAgg124
  z164 := Tryd.sizeOf124
  v164 := Tryd.zeroValue124
theorem Tryd.br_extra : Builder.Extra Tryd.prog Tryd.br_ren where
  sizeBuilder := by kernel_rfl
  liesBuilder := by kernel_rfl
  t5 := Tryd.underlying5
  a5 := Tryd.isAgg5
  z5 := Tryd.sizeOf5
  v5 := Tryd.zeroValue5
  infoByte := by kernel_rfl
  cellsByte := by kernel_rfl
  sizeByte := by kernel_rfl
  neB5 := by decide

theorem write_rune (B b : Nat) (bs : List Value) (r : Int) (hr0 : 0 ≤ r) (hr1 : r ≤ 127) (w : World) (h : Lib.IsBuilderF ( /- t -/ 79) ( /- t -/ 5) B b bs w) (hlen : bs.length + 4 ≤ 140737488355328) (hBw : B ≤ w.heap.size) :
    Calls Tryd.prog 46 #[.pointer (some ⟨b, 0, none⟩), .int .i32 r] w fun e w' => e = .returned (.tuple #[.int .i64 1, .nilIface]) ∧ (Lib.BuilderAtF ( /- t -/ 79) ( /- t -/ 5) B b (.pointer (some ⟨b, 0, none⟩)) (bs ++ [.int .u8 r]) w' ∧ Below B w w' ∧ Lib.OthersKept ( /- t -/ 5) (some b) w w') := by
  have e : Lib.runeCells r = [.int .u8 r] := by
    unfold Lib.runeCells
    rw [Lib.encodeRuneZ_one hr0 hr1]
    rfl
  have := Any.Builder_WriteRune_k Tryd.br_lays168 Tryd.br_extra B b bs r (by omega) (by omega) w h hlen hBw
  rw [e] at this
  exact this
end Go.Proofs.YtbonmdkfmgahbaaDoor
