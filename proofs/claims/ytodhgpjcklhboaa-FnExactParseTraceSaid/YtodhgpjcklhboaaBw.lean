/- WriteString and String of strings.Builder at this program: the shelf's contracts laid by hand. -/
import Derived.Test.YtodhgpjcklhboaaProg
import Derived.Shelf.LaysM
import Derived.Shelf.Strings.Builder1
import Derived.Shelf.Strings.BuilderF
import Derived.Shelf.Strings.BuilderK
namespace Go.Proofs.Ytodhgpjcklhboaa
open Go.RowKit

/-- The table of numbers. -/
def Try.bl_ren : Go.Shelf.Ren := ⟨fun | 166 => ( /- f -/ 61) | 240 => ( /- f -/ 91) | 276 => ( /- f -/ 106) | n => n, fun | 0 => ( /- t -/ 0) | 3 => ( /- t -/ 3) | 4 => ( /- t -/ 4) | 5 => ( /- t -/ 5) | 9 => ( /- t -/ 9) | 20 => ( /- t -/ 20) | 37 => ( /- t -/ 94) | 70 => ( /- t -/ 93) | 72 => ( /- t -/ 96) | 75 => ( /- t -/ 99) | 80 => ( /- t -/ 103) | 164 => ( /- t -/ 160) | n => n, fun n => n⟩
theorem Try.bl_lays166 : Go.Proofs.Lays.n166 Try.prog Try.bl_ren where
  mixed := by kernel_rfl
  f166 := Try.func61.trans (congrArg some (by kernel_rfl))
  f240 := Try.func91.trans (congrArg some (by kernel_rfl))
  f276 := Try.func106.trans (congrArg some (by kernel_rfl))
  t0 := Try.underlying0
  a0 := Try.isAgg0
  z0 := Try.sizeOf0
  v0 := Try.zeroValue0
  t3 := Try.underlying3
  a3 := Try.isAgg3
  z3 := Try.sizeOf3
  v3 := Try.zeroValue3
  t4 := Try.underlying4
  a4 := Try.isAgg4
  z4 := Try.sizeOf4
  v4 := Try.zeroValue4
  t9 := Try.underlying9
  a9 := Try.isAgg9
  z9 := Try.sizeOf9
  v9 := Try.zeroValue9
  t20 := Try.underlying20
  a20 := Try.isAgg20
  z20 := Try.sizeOf20
  v20 := Try.zeroValue20
  t37 := Try.underlying94
  a37 := Try.isAgg94
  z37 := Try.sizeOf94
  v37 := Try.zeroValue94
  t70 := Try.underlying93
  a70 := Try.isAgg93
  z70 := Try.sizeOf93
  v70 := Try.zeroValue93
  t72 := Try.underlying96
  a72 := Try.isAgg96
  z72 := Try.sizeOf96
  v72 := Try.zeroValue96
  t75 := Try.underlying99
  a75 := Try.isAgg99
  z75 := Try.sizeOf99
  v75 := Try.zeroValue99
  t164 := Try.underlying160
  a164 := Try.isAgg160
  z164 := Try.sizeOf160
  v164 := Try.zeroValue160
theorem Try.bl_extra : Builder.Extra Try.prog Try.bl_ren where
  sizeBuilder := by kernel_rfl
  liesBuilder := by kernel_rfl
  t5 := Try.underlying5
  a5 := Try.isAgg5
  z5 := Try.sizeOf5
  v5 := Try.zeroValue5
  infoByte := by kernel_rfl
  cellsByte := by kernel_rfl
  sizeByte := by kernel_rfl
  neB5 := by decide

theorem write_string (B b : Nat) (bs : List Value) (s : ByteArray) (w : World) (h : Lib.IsBuilderF ( /- t -/ 96) ( /- t -/ 5) B b bs w) (hlen : bs.length + s.size ≤ 140737488355328) (hBw : B ≤ w.heap.size) :
    Calls Try.prog 61 #[.pointer (some ⟨b, 0, none⟩), .string s] w fun e w' => e = .returned (.tuple #[.int .i64 s.size, .nilIface]) ∧ (Lib.BuilderAtF ( /- t -/ 96) ( /- t -/ 5) B b (.pointer (some ⟨b, 0, none⟩)) (bs ++ Lib.strCells s) w' ∧ Below B w w' ∧ Lib.OthersKept ( /- t -/ 5) (some b) w w') :=
  Any.Builder_WriteString_k Try.bl_lays166 Try.bl_extra B b bs s w h hlen hBw
/-- The table of numbers of String. -/
def Try.bs_ren : Go.Shelf.Ren := ⟨fun | 169 => ( /- f -/ 63) | n => n, fun | 0 => ( /- t -/ 0) | 3 => ( /- t -/ 3) | 9 => ( /- t -/ 9) | 37 => ( /- t -/ 94) | 70 => ( /- t -/ 93) | 72 => ( /- t -/ 96) | 127 => ( /- t -/ 137) | 5 => ( /- t -/ 5) | n => n, fun n => n⟩
theorem Try.bs_lays169 : Go.Proofs.Lays.n169 Try.prog Try.bs_ren where
  mixed := by kernel_rfl
  f169 := Try.func63.trans (congrArg some (by kernel_rfl))
  t0 := Try.underlying0
  a0 := Try.isAgg0
  z0 := Try.sizeOf0
  v0 := Try.zeroValue0
  t3 := Try.underlying3
  a3 := Try.isAgg3
  z3 := Try.sizeOf3
  v3 := Try.zeroValue3
  t9 := Try.underlying9
  a9 := Try.isAgg9
  z9 := Try.sizeOf9
  v9 := Try.zeroValue9
  t37 := Try.underlying94
  a37 := Try.isAgg94
  z37 := Try.sizeOf94
  v37 := Try.zeroValue94
  t70 := Try.underlying93
  a70 := Try.isAgg93
  z70 := Try.sizeOf93
  v70 := Try.zeroValue93
  t72 := Try.underlying96
  a72 := Try.isAgg96
  z72 := Try.sizeOf96
  v72 := Try.zeroValue96
  t127 := Try.underlying137
  a127 := Try.isAgg137
  z127 := Try.sizeOf137
  v127 := Try.zeroValue137
theorem Try.bs_extra : Builder.Extra Try.prog Try.bs_ren where
  sizeBuilder := by kernel_rfl
  liesBuilder := by kernel_rfl
  t5 := Try.underlying5
  a5 := Try.isAgg5
  z5 := Try.sizeOf5
  v5 := Try.zeroValue5
  infoByte := by kernel_rfl
  cellsByte := by kernel_rfl
  sizeByte := by kernel_rfl
  neB5 := by decide

/-- (*strings.Builder).String, whatever the builder holds. -/
theorem string_any (B b : Nat) (s : ByteArray) (w : World) (h : Lib.IsBuilderF ( /- t -/ 96) ( /- t -/ 5) B b (Lib.strCells s) w) (hBw : B ≤ w.heap.size) :
    Calls Try.prog 63 #[.pointer (some ⟨b, 0, none⟩)] w fun e w' => e = .returned (.string s) ∧ Below B w w' := by
  refine (Any.Builder_String_any_k Try.bs_lays169 Try.bs_extra B b s.data.toList w h hBw).mono ?_
  rintro e w' ⟨rfl, -, hb, -⟩
  exact ⟨rfl, hb⟩
end Go.Proofs.Ytodhgpjcklhboaa
