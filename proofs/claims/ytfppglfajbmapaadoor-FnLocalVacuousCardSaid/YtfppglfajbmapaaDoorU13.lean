/- LJq, LIx, Bl, LWl, LWr, LWa, Br, Ri, In, LPs, LPi -/
import Derived.Test.YtfppglfajbmapaaDoorU12
import Derived.StillTailTactics
import Derived.Test.YtfppglfajbmapaaDoorU04
import Derived.LaidEqlPtr
import Derived.Test.YtfppglfajbmapaaDoorShelf
import Derived.Shelf.Strings.BuilderK
import Derived.Test.YtfppglfajbmapaaDoorU11
import Derived.Test.YtfppglfajbmapaaDoorU00
import Derived.Deep.RegionHeld3
import Derived.Lib.UnsafeStr
import Derived.Shelf.Strings.BuilderRune
import Derived.Test.YtfppglfajbmapaaDoorRows
import Derived.WalkKit
import Derived.WalkSpells
import Derived.WalkLawsBesides
import Derived.Lib.IndexAny
import Derived.Test.YtfppglfajbmapaaDoorU05
import Derived.Laws.IdiomStrings
import Derived.RegionTactic
import Derived.Test.YtfppglfajbmapaaDoorU08
/- LocalEquivalent of the program: two closed valid types compared. -/
namespace Go.Proofs.YtfppglfajbmapaaDoor.Lo
open Go.RowKit

set_option maxHeartbeats 1000000 in
/-- LocalEquivalent of the program. -/
theorem implEquiv (w : World) (a b : Nd) (sa sb : Value) (hs : Sl w sa a.kids) (hs' : Sl w sb b.kids) :
    Calls Tryd.prog 21 #[.agg #[.int .i64 a.k, .string a.fr, .int .i64 a.ix, sa], .agg #[.int .i64 b.k, .string b.fr, .int .i64 b.ix, sb]] w fun e w' => e = .returned (.bool (cmpB false a b)) ∧ Below w.heap.size w w' := by
  have hb0 := (alloc_below w (.cells #[.int .i64 a.k, .string a.fr, .int .i64 a.ix, sa] ( /- t -/ 35))).alloc (by simp) (.cells #[.int .i64 b.k, .string b.fr, .int .i64 b.ix, sb] ( /- t -/ 35))
  have HS := hide (hs.still (Still.of_below hb0))
  have HS' := hide (hs'.still (Still.of_below hb0))
  obtain ⟨v, hv⟩ : ∃ v, v = cmpB false a b := ⟨_, rfl⟩
  rw [← hv]
  have HV := hide hv
  clear hs hs' hv
  go_enter Tryd.func21, Tryd.ntmps21
  go_wp2_with fail
  refine (cmpE_calls _ a b sa sb HS.out HS'.out).mono ?_
  rintro e w1 ⟨rfl, hb⟩
  have hb2 := hb0.trans (hb.mono hb0.size)
  clear hb0 hb
  rw [← HV.out]
  go_wp2_with fail
  go_ret
  exact ⟨rfl, hb2⟩
end Go.Proofs.YtfppglfajbmapaaDoor.Lo

/- The index of a variable in a scope of the program. -/
namespace Go.Proofs.YtfppglfajbmapaaDoor.Lo
open Go.RowKit

theorem Tryd.info199 : (Tryd.prog.info? ( /- t -/ 199)).map (fun i => (i.zero, i.size, i.bytes)) = some (some (.agg #[.nilIface]), 1, 16) := by kernel_rfl

theorem nodup_get {ps : List Nat} (h : ps.Nodup) {i j x : Nat} (hi : ps[i]? = some x) (hj : ps[j]? = some x) : i = j := by
  obtain ⟨h1, e1⟩ := List.getElem?_eq_some_iff.1 hi
  obtain ⟨h2, e2⟩ := List.getElem?_eq_some_iff.1 hj
  rcases Nat.lt_trichotomy i j with hlt | heq | hlt
  · exact absurd (e1.trans e2.symm) (List.pairwise_iff_getElem.1 h i j h1 h2 hlt)
  · exact heq
  · exact absurd (e2.trans e1.symm) (List.pairwise_iff_getElem.1 h j i h2 h1 hlt)

set_option maxHeartbeats 800000 in
set_option maxRecDepth 100000 in
/-- index: the recursion is around. -/
theorem idx_calls (w : World) (dp un : Int) (lv : Value) (ps : List Nat) (l i j : Nat) (hp : Ps w lv ps) (hnd : ps.Nodup) (hl : ps[j]? = some l) (hj : ps.length = j + 1 + i) (hlen : ps.length ≤ 41) (hblk : ∀ x, x ∈ ps → ∃ cs, Blk w x cs) :
    Calls Tryd.prog 109 #[.agg #[.int .i64 dp, lv, .int .i64 un], .pointer (some ⟨l, 0, none⟩)] w fun e w' => e = .returned (.int .i64 i) ∧ Below w.heap.size w w' := by
  rcases hp with ⟨rfl, -⟩ | ⟨b, cap, hne, rfl, hcap, hmax, hcell⟩
  · exfalso
    have : (0 : Nat) = j + 1 + i := hj
    omega
  obtain ⟨i0, hi, hz0, hz1, hz2⟩ := info_parts Tryd.info199
  have HI := hide hi
  have HI1 : Hid (i0.size ≠ 0) := by unfold Hid; rw [hz1]; decide
  have HBK := hide hblk
  clear hi hz0 hz1 hz2 hblk
  obtain ⟨n, hn⟩ : ∃ n, n = ps.length := ⟨_, rfl⟩
  have hn41 : n ≤ 41 := by omega
  have hin : i < n := by omega
  rw [← hn]
  have HC := hide hcell
  have HND := hide hnd
  have HL := hide hl
  have HJ : Hid (n = j + 1 + i ∧ n = ps.length) := ⟨by omega, hn⟩
  have hb0 := alloc_below w (.cells #[.int .i64 dp, .slice (some ⟨b, 0, none⟩) n cap, .int .i64 un] ( /- t -/ 105))
  have hbx := Blk.now w #[.int .i64 dp, .slice (some ⟨b, 0, none⟩) n cap, .int .i64 un] ( /- t -/ 105)
  clear hcell hnd hl hj hcap hmax hne hlen hn
  go_enter Tryd.func109, Tryd.ntmps109
  go_wp2_with fail
  generalize (w.alloc (.cells #[.int .i64 dp, .slice (some ⟨b, 0, none⟩) n cap, .int .i64 un] ( /- t -/ 105))) = W at *
  have c1 : W.cell? ⟨w.heap.size, 1, none⟩ = some (.slice (some ⟨b, 0, none⟩) n cap) := hbx.cell 1
  have hW : w.heap.size < W.heap.size := hbx.lt
  have HB := hide hb0
  clear hb0 hbx
  go_loopw [9] (fun iv wr => ∃ k : Nat, iv = .int .i64 k ∧ k ≤ i ∧ wr = W) (fun iv _ => i + 1 - (intOf iv).toNat)
  case atStart => exact ⟨0, rfl, Nat.zero_le _, rfl⟩
  case round =>
    obtain ⟨k, rfl, hk, rfl⟩ := hrel
    obtain ⟨r, hr⟩ : ∃ r, r + 1 + k = n := ⟨n - 1 - k, by omega⟩
    have hidx : (n : Int) - 1 - k = (r : Nat) := by omega
    have hkn : k < n := by omega
    have hr0 : (0 : Int) ≤ (r : Nat) := by omega
    have hrn : r < n := by omega
    obtain ⟨x, hx⟩ : ∃ x, ps[r]? = some x := ⟨ps[r]'(by have := HJ.out.2; omega), List.getElem?_eq_getElem (by have := HJ.out.2; omega)⟩
    have z0 : wr.cell? ⟨b, r, none⟩ = some (.pointer (some ⟨x, 0, none⟩)) := (Still.of_below HB.out) _ _ (HC.out _ _ hx)
    have hbw : b < wr.heap.size := World.block_lt_of_cell? _ _ z0
    by_cases hq : k = i
    · have hrj : r = j := by have := HJ.out.1; omega
      have hxl : x = l := by
        have := HL.out
        rw [hrj, this] at hx
        exact (Option.some.inj hx).symm
      have HK := hide hq
      subst hxl
      have n1 := run_eql_ptr_same (P := Tryd.prog) wr ⟨x, 0, none⟩ Tryd.underlying194 HI.out
      clear hx hr hrj hq
      go_wp2_with fail
      go_ret
      exact ⟨by rw [HK.out]; rfl, HB.out⟩
    · have hxl : x ≠ l := by
        rintro rfl
        have := nodup_get HND.out hx HL.out
        have := HJ.out.1
        omega
      have hki : k + 1 ≤ i := by omega
      have HKI := hide hki
      obtain ⟨cx, tx, hbx⟩ := HBK.out x (List.mem_of_getElem? hx)
      obtain ⟨cl, tl, hbl⟩ := HBK.out l (List.mem_of_getElem? HL.out)
      have n1 := run_eql_ptr_other (P := Tryd.prog) wr (a := ⟨x, 0, none⟩) (b := ⟨l, 0, none⟩) Tryd.underlying194 HI.out HI1.out (fun e => hxl (by injection e)) ((HB.out.block x (Array.getElem?_eq_some_iff.1 hbx).1).trans hbx) ((HB.out.block l (Array.getElem?_eq_some_iff.1 hbl).1).trans hbl)
      clear hx hr hq hki hbx hbl
      go_wp2_with fail
      refine ⟨⟨k + 1, by go_num, HKI.out, trivial⟩, ?_⟩
      have h9 := HKI.out
      simp [intOf]
      omega
end Go.Proofs.YtfppglfajbmapaaDoor.Lo

/- Three functions of strings.Builder at this program: the shelf's contracts laid by hand (the shelf's own command stands still at them: its structure names two types more than the bodies do). -/
namespace Go.Proofs.YtfppglfajbmapaaDoor
open Go.RowKit

/-- The table of numbers. -/
def Tryd.bl_ren : Go.Shelf.Ren := ⟨fun | 166 => ( /- f -/ 95) | 167 => ( /- f -/ 94) | 240 => ( /- f -/ 147) | 276 => ( /- f -/ 175) | n => n, fun | 0 => ( /- t -/ 0) | 3 => ( /- t -/ 3) | 4 => ( /- t -/ 4) | 5 => ( /- t -/ 5) | 9 => ( /- t -/ 9) | 20 => ( /- t -/ 20) | 37 => ( /- t -/ 22) | 70 => ( /- t -/ 81) | 72 => ( /- t -/ 83) | 75 => ( /- t -/ 152) | 80 => ( /- t -/ 85) | 164 => ( /- t -/ 251) | n => n, fun n => n⟩
theorem Tryd.bl_lays166 : Go.Proofs.Lays.n166 Tryd.prog Tryd.bl_ren where
  mixed := by kernel_rfl
  f166 := Tryd.func95.trans (congrArg some (by kernel_rfl))
  f240 := Tryd.func147.trans (congrArg some (by kernel_rfl))
  f276 := Tryd.func175.trans (congrArg some (by kernel_rfl))
  t0 := Tryd.underlying0
  a0 := Tryd.isAgg0
  z0 := Tryd.sizeOf0
  v0 := Tryd.zeroValue0
  t3 := Tryd.underlying3
  a3 := Tryd.isAgg3
  z3 := Tryd.sizeOf3
  v3 := Tryd.zeroValue3
  t4 := Tryd.underlying4
  a4 := Tryd.isAgg4
  z4 := Tryd.sizeOf4
  v4 := Tryd.zeroValue4
  t9 := Tryd.underlying9
  a9 := Tryd.isAgg9
  z9 := Tryd.sizeOf9
  v9 := Tryd.zeroValue9
  t20 := Tryd.underlying20
  a20 := Tryd.isAgg20
  z20 := Tryd.sizeOf20
  v20 := Tryd.zeroValue20
  t37 := Tryd.underlying22
  a37 := Tryd.isAgg22
  z37 := Tryd.sizeOf22
  v37 := Tryd.zeroValue22
  t70 := Tryd.underlying81
  a70 := Tryd.isAgg81
  z70 := Tryd.sizeOf81
  v70 := Tryd.zeroValue81
  t72 := Tryd.underlying83
  a72 := Tryd.isAgg83
  z72 := Tryd.sizeOf83
  v72 := Tryd.zeroValue83
  t75 := Tryd.underlying152
  a75 := Tryd.isAgg152
  z75 := Tryd.sizeOf152
  v75 := Tryd.zeroValue152
  t164 := Tryd.underlying251
  a164 := Tryd.isAgg251
  z164 := Tryd.sizeOf251
  v164 := Tryd.zeroValue251
theorem Tryd.bl_lays167 : Go.Proofs.Lays.n167 Tryd.prog Tryd.bl_ren where
  mixed := by kernel_rfl
  f167 := Tryd.func94.trans (congrArg some (by kernel_rfl))
  f240 := Tryd.func147.trans (congrArg some (by kernel_rfl))
  f276 := Tryd.func175.trans (congrArg some (by kernel_rfl))
  t0 := Tryd.underlying0
  a0 := Tryd.isAgg0
  z0 := Tryd.sizeOf0
  v0 := Tryd.zeroValue0
  t4 := Tryd.underlying4
  a4 := Tryd.isAgg4
  z4 := Tryd.sizeOf4
  v4 := Tryd.zeroValue4
  t5 := Tryd.underlying5
  a5 := Tryd.isAgg5
  z5 := Tryd.sizeOf5
  v5 := Tryd.zeroValue5
  t9 := Tryd.underlying9
  a9 := Tryd.isAgg9
  z9 := Tryd.sizeOf9
  v9 := Tryd.zeroValue9
  t20 := Tryd.underlying20
  a20 := Tryd.isAgg20
  z20 := Tryd.sizeOf20
  v20 := Tryd.zeroValue20
  t37 := Tryd.underlying22
  a37 := Tryd.isAgg22
  z37 := Tryd.sizeOf22
  v37 := Tryd.zeroValue22
  t70 := Tryd.underlying81
  a70 := Tryd.isAgg81
  z70 := Tryd.sizeOf81
  v70 := Tryd.zeroValue81
  t72 := Tryd.underlying83
  a72 := Tryd.isAgg83
  z72 := Tryd.sizeOf83
  v72 := Tryd.zeroValue83
  t75 := Tryd.underlying152
  a75 := Tryd.isAgg152
  z75 := Tryd.sizeOf152
  v75 := Tryd.zeroValue152
  t164 := Tryd.underlying251
  a164 := Tryd.isAgg251
  z164 := Tryd.sizeOf251
  v164 := Tryd.zeroValue251
theorem Tryd.bl_extra : Builder.Extra Tryd.prog Tryd.bl_ren where
  sizeBuilder := by kernel_rfl
  liesBuilder := by kernel_rfl
  t5 := Tryd.underlying5
  a5 := Tryd.isAgg5
  z5 := Tryd.sizeOf5
  v5 := Tryd.zeroValue5
  infoByte := by kernel_rfl
  cellsByte := by kernel_rfl
  sizeByte := by kernel_rfl
  neB5 := by decide

theorem write_byte (B b : Nat) (bs : List Value) (c : Int) (w : World) (h : Lib.IsBuilderF ( /- t -/ 83) ( /- t -/ 5) B b bs w) (hlen : bs.length + 1 ≤ 140737488355328) (hBw : B ≤ w.heap.size) :
    Calls Tryd.prog 94 #[.pointer (some ⟨b, 0, none⟩), .int .u8 c] w fun e w' => e = .returned .nilIface ∧ (Lib.BuilderAtF ( /- t -/ 83) ( /- t -/ 5) B b (.pointer (some ⟨b, 0, none⟩)) (bs ++ [.int .u8 c]) w' ∧ Below B w w' ∧ Lib.OthersKept ( /- t -/ 5) (some b) w w') :=
  Any.Builder_WriteByte_k Tryd.bl_lays167 Tryd.bl_extra B b bs c w h hlen hBw
theorem write_string (B b : Nat) (bs : List Value) (s : ByteArray) (w : World) (h : Lib.IsBuilderF ( /- t -/ 83) ( /- t -/ 5) B b bs w) (hlen : bs.length + s.size ≤ 140737488355328) (hBw : B ≤ w.heap.size) :
    Calls Tryd.prog 95 #[.pointer (some ⟨b, 0, none⟩), .string s] w fun e w' => e = .returned (.tuple #[.int .i64 s.size, .nilIface]) ∧ (Lib.BuilderAtF ( /- t -/ 83) ( /- t -/ 5) B b (.pointer (some ⟨b, 0, none⟩)) (bs ++ Lib.strCells s) w' ∧ Below B w w' ∧ Lib.OthersKept ( /- t -/ 5) (some b) w w') :=
  Any.Builder_WriteString_k Tryd.bl_lays166 Tryd.bl_extra B b bs s w h hlen hBw
end Go.Proofs.YtfppglfajbmapaaDoor

/- writeLinked of the program. -/
namespace Go.Proofs.YtfppglfajbmapaaDoor.Lo
open Go.RowKit

/-- A scope's row is none of the builder's blocks. -/
theorem Pt.kp {w w' : World} {v : Value} {ps : List Nat} {B bb : Nat} {bs : List Value} (h : Pt w v ps) (hb : Lib.IsBuilderF ( /- t -/ 83) ( /- t -/ 5) B bb bs w) (hk : Kp B bb w w') : Pt w' v ps := by
  refine h.keep fun b cs hc => hk.cells hc ?_ (by decide)
  rintro rfl
  rcases hb with hb | hb
  · obtain ⟨-, v', h2, -⟩ := hb
    rw [hc] at h2
    injection h2 with h2
    injection h2 with _ h2
    exact absurd h2 (by decide)
  · obtain ⟨-, v', h2, -⟩ := hb
    rw [hc] at h2
    injection h2 with h2
    injection h2 with _ h2
    exact absurd h2 (by decide)
theorem bu_lt {w : World} {B bb : Nat} {bs : List Value} (hb : Lib.IsBuilderF ( /- t -/ 83) ( /- t -/ 5) B bb bs w) : bb < w.heap.size := by
  rcases hb with h | h
  · exact h.lt
  · exact h.lt

/-- What writeLinked owes. -/
def WlPost (w : World) (B bb : Nat) (bs : List Value) (t : ByteArray) (e : Ending) (w' : World) : Prop :=
  e = .returned (.tuple #[]) ∧ Lib.IsBuilderF ( /- t -/ 83) ( /- t -/ 5) B bb (bs ++ Lib.strCells t) w' ∧ Kp B bb w w'

def WlAt (n : Nat) : Prop := ∀ (w0 w : World) (B bb : Nat) (bs : List Value) (k ix u d dp un : Int) (fr : ByteArray) (v lv : Value) (kids : F) (ps ks : List Nat), kids.sz < n → kids.sz ≤ 400 → LkN w0 k fr ix kids ps v ks → w0.heap.size ≤ B → Below w0.heap.size w0 w → B ≤ w.heap.size →
  Pt w lv ps → ps.Nodup → (∀ x, x ∈ ps → ∃ cs, Blk w0 x cs) → 0 ≤ u → ps.length + d ≤ 40 → 0 ≤ dp → dp + d ≤ 40 → 0 ≤ un → un ≤ dp → vldN k fr ix kids ps.length u d = true → Lib.IsBuilderF ( /- t -/ 83) ( /- t -/ 5) B bb bs w → bs.length + (txN k fr ix kids).size ≤ 1048576 →
  Calls Tryd.prog 67 #[.pointer (some ⟨bb, 0, none⟩), v, .agg #[.int .i64 dp, lv, .int .i64 un]] w (WlPost w B bb bs (txN k fr ix kids))

set_option maxHeartbeats 400000 in
set_option maxRecDepth 100000 in
theorem wl_end (w : World) (B bb : Nat) (bs : List Value) (ix dp un : Int) (fr : ByteArray) (lv : Value) (kids : F) (ps : List Nat) (hB : B ≤ w.heap.size) (hp : Pt w lv ps) (hbu : Lib.IsBuilderF ( /- t -/ 83) ( /- t -/ 5) B bb bs w) (hlen : bs.length + (txN 1 fr ix kids).size ≤ 1048576) :
    Calls Tryd.prog 67 #[.pointer (some ⟨bb, 0, none⟩), .iface ( /- t -/ 193) (.agg #[]), .agg #[.int .i64 dp, lv, .int .i64 un]] w (WlPost w B bb bs (txN 1 fr ix kids)) := by
  obtain ⟨a, cap, rfl, -, -⟩ := hp.ps.val
  have h5 : 1 ≤ 1048576 - bs.length ∧ bs.length ≤ 1048576 := by
    have e1 : (txN 1 fr ix kids).size = 1 := rfl
    omega
  have hb1 := alloc_below w (.cells #[.int .i64 dp, .slice a ps.length cap, .int .i64 un] ( /- t -/ 105))
  have hb2 := hb1.alloc hb1.size (.cells #[] ( /- t -/ 193))
  have HBU := hide hbu
  have HB2 := hide hb2
  clear hp hbu hlen hb1 hb2
  have n1 := taEndEnd
  go_enter Tryd.func67, Tryd.ntmps67
  go_wp2_with fail
  refine (write_byte B bb bs 46 _ (bu_below HBU.out HB2.out) (by omega) (Nat.le_trans hB HB2.out.size)).mono ?_
  rintro e w2 ⟨rfl, hat, hb3, ho3⟩
  go_wp2_with fail
  go_end0
  exact ⟨rfl, Or.inr hat, ((Kp.refl B bb w).of_below hB HB2.out).trans ⟨hb3, ho3⟩⟩

set_option maxHeartbeats 400000 in
set_option maxRecDepth 100000 in
theorem wl_var (w0 w : World) (B bb : Nat) (bs : List Value) (i j l : Nat) (dp un : Int) (fr : ByteArray) (lv : Value) (kids : F) (ps : List Nat) (hB : B ≤ w.heap.size) (hw : Below w0.heap.size w0 w) (hp : Pt w lv ps) (hnd : ps.Nodup) (hpb : ∀ x, x ∈ ps → ∃ cs, Blk w0 x cs) (hl : ps[j]? = some l) (hj : ps.length = j + 1 + i) (h40 : ps.length ≤ 40)
    (hbu : Lib.IsBuilderF ( /- t -/ 83) ( /- t -/ 5) B bb bs w) (hlen : bs.length + (txN 5 fr i kids).size ≤ 1048576) :
    Calls Tryd.prog 67 #[.pointer (some ⟨bb, 0, none⟩), .iface ( /- t -/ 196) (.agg #[.pointer (some ⟨l, 0, none⟩)]), .agg #[.int .i64 dp, lv, .int .i64 un]] w (WlPost w B bb bs (txN 5 fr i kids)) := by
  have hi40 : i < 40 := by omega
  have h2 : (bdec i).size ≤ 2 := by
    have := decDigits_small (i := i) (by omega)
    simpa [bdec, ByteArray.size] using this
  have e1 : (⟨(Lib.decDigits i).toArray⟩ : ByteArray) = bdec i := rfl
  obtain ⟨a, cap, rfl, -, -⟩ := hp.ps.val
  have h5 : bs.length + (bhash ++ bdec i).size ≤ 1048576 := hlen
  have H5 := hide h5
  have hb1 := alloc_below w (.cells #[.int .i64 dp, .slice a ps.length cap, .int .i64 un] ( /- t -/ 105))
  have hb2 := hb1.alloc hb1.size (.cells #[.pointer (some ⟨l, 0, none⟩)] ( /- t -/ 196))
  have HBU := hide hbu
  have HB2 := hide hb2
  have HP := hide hp
  have HND := hide hnd
  have HPB := hide hpb
  have HL := hide hl
  have HJ := hide hj
  clear hp hbu hlen hb1 hb2 hnd hpb hl hj h5
  have n1 := taVarEnd
  have n2 := taVarVar
  go_enter Tryd.func67, Tryd.ntmps67
  go_wp2_with fail
  refine (idx_calls _ dp un _ ps l i j ((HP.out.below HB2.out).ps) HND.out HL.out HJ.out (by omega) (fun x hx => by obtain ⟨cs, h⟩ := HPB.out x hx; exact ⟨cs, (h.below hw).below HB2.out⟩)).mono ?_
  rintro e w1 ⟨rfl, hb3⟩
  have HB3 := hide (HB2.out.trans (hb3.mono HB2.out.size))
  clear hb3
  go_wp2_with fail
  refine (Tryd.strconv_Itoa_small i (by omega) _).mono ?_
  rintro e w3 ⟨rfl, rfl⟩
  rw [e1]
  go_wp2_with fail
  refine (write_string B bb bs (bhash ++ bdec i) _ (bu_below HBU.out HB3.out) (by have := H5.out; omega) (Nat.le_trans hB HB3.out.size)).mono ?_
  rintro e w2 ⟨rfl, hat, hb3, ho3⟩
  go_wp2_with fail
  go_end0
  exact ⟨rfl, Or.inr hat, ((Kp.refl B bb w).of_below hB HB3.out).trans ⟨hb3, ho3⟩⟩

end Go.Proofs.YtfppglfajbmapaaDoor.Lo

/- writeLinked of the program: recursions. -/
namespace Go.Proofs.YtfppglfajbmapaaDoor.Lo
open Go.RowKit

set_option maxHeartbeats 3200000 in
set_option maxRecDepth 100000 in
theorem wl_rec (n : Nat) (ih : WlAt n) (w0 w : World) (B bb : Nat) (bs : List Value) (ix u d dp un : Int) (fr : ByteArray) (v lv : Value) (kids : F) (ps ks : List Nat) (hn : kids.sz < n + 1) (hbig : kids.sz ≤ 400) (hk : LkN w0 4 fr ix kids ps v ks) (h0 : w0.heap.size ≤ B) (hw : Below w0.heap.size w0 w) (hB : B ≤ w.heap.size)
    (hp : Pt w lv ps) (hnd : ps.Nodup) (hpb : ∀ x, x ∈ ps → ∃ cs, Blk w0 x cs) (hu : 0 ≤ u) (hd1 : 1 ≤ d) (hbd : ps.length + d ≤ 40) (hdp : 0 ≤ dp) (hdd : dp + d ≤ 40) (hun : 0 ≤ un) (hund : un ≤ dp) (hsh : shapeB 4 fr ix kids = true) (hv : vldF kids (ps.length + 1) (u + 1) (d - 1) = true)
    (hbu : Lib.IsBuilderF ( /- t -/ 83) ( /- t -/ 5) B bb bs w) (hlen : bs.length + (txN 4 fr ix kids).size ≤ 1048576) :
    Calls Tryd.prog 67 #[.pointer (some ⟨bb, 0, none⟩), v, .agg #[.int .i64 dp, lv, .int .i64 un]] w (WlPost w B bb bs (txN 4 fr ix kids)) := by
  obtain ⟨e1, rfl, lab, k', fr', ix', kids', rfl, e3⟩ := shape_rec hsh
  have hvn : vldN k' fr' ix' kids' (ps.length + 1) (u + 1) (d - 1) = true := by
    simp only [vldF, Bool.and_true] at hv
    exact hv
  have htx : txN 4 fr 0 (.cons lab k' fr' ix' kids' .nil) = bat ++ txN k' fr' ix' kids' := rfl
  rw [htx] at hlen ⊢
  have hl2 : bs.length + 1 + (txN k' fr' ix' kids').size ≤ 1048576 := by
    rw [ByteArray.size_append] at hlen
    have e1 : bat.size = 1 := rfl
    omega
  obtain ⟨L, T, x, ks', rfl, hbL, hLp, hln⟩ := linked_rec hk
  obtain ⟨a, cap, rfl, -, -⟩ := hp.ps.val
  have hb1 := alloc_below w (.cells #[.int .i64 dp, .slice a ps.length cap, .int .i64 un] ( /- t -/ 105))
  have hX := alloc_last w #[.int .i64 dp, .slice a ps.length cap, .int .i64 un] ( /- t -/ 105)
  have hbw := bu_lt hbu
  have HBU := hide hbu
  have HL := hide hl2
  have HB1 := hide hb1
  have HX := hide hX
  have HP := hide hp
  have HND := hide hnd
  have HPB := hide hpb
  have HBL := hide hbL
  have HLP := hide hLp
  have HLN := hide hln
  have HN := hide hn
  have HG := hide hbig
  have HVN := hide hvn
  have HW := hide hw
  clear hp hbu hlen hl2 hb1 hX hnd hpb hbL hLp hln hn hbig hvn hw hk hsh hv htx e1 e3
  have n1 := taLoopEnd
  have n2 := taLoopVar
  have n3 := taLoopLoop
  go_enter Tryd.func67, Tryd.ntmps67
  go_wp2_with fail
  refine (write_byte B bb bs 64 _ (bu_below HBU.out HB1.out) (by have := HL.out; omega) (Nat.le_trans hB HB1.out.size)).mono ?_
  rintro e w2 ⟨rfl, hat, hb3, ho3⟩
  have kp := ((Kp.refl B bb w).of_below hB HB1.out).trans ⟨hb3, ho3⟩
  have hX2 := (Kp.mk hb3 ho3).cells HX.out (by omega) (by decide)
  have x0 := cell_of_heap (o := 0) hX2
  have x1 := cell_of_heap (o := 1) hX2
  have x2 := cell_of_heap (o := 2) hX2
  simp only [List.getElem?_toArray, List.getElem?_cons_zero, List.getElem?_cons_succ] at x0 x1 x2
  have hXl : w.heap.size < w2.heap.size := World.block_lt_of_cell? _ _ x0
  have hLB : L < w0.heap.size := HBL.out.lt
  have hbL2 : Blk w2 L #[.iface T x] := HBL.out.same ((kp.below.block L (by omega)).trans (HW.out.block L hLB))
  have y0 : w2.cell? ⟨L, 0, none⟩ = some (.iface T x) := hbL2.cell 0
  have hLl : L < w2.heap.size := hbL2.lt
  have hB2 : B ≤ w2.heap.size := Nat.le_trans hB kp.below.size
  have hpt : Pt w2 (.slice a ps.length cap) ps := HP.out.kp HBU.out kp
  have HPT := hide hpt
  have HAT := hide hat
  have HKP := hide kp
  have HX2 := hide hX2
  have hptd : Ps w2.drew (.slice a ps.length cap) ps := hpt.ps
  have HPTD := hide hptd
  have hbud : Lib.IsBuilderF ( /- t -/ 83) ( /- t -/ 5) B bb (bs ++ [.int .u8 64]) w2.drew := Or.inr hat
  have HBUD := hide hbud
  have hX2d : w2.drew.heap[w.heap.size]? = some (.cells #[.int .i64 dp, .slice a ps.length cap, .int .i64 un] ( /- t -/ 105) (0, 0)) := hX2
  have HX2D := hide hX2d
  have hbwX : w.heap.size ≠ bb := by omega
  clear hb3 ho3 hat kp hX2 hbL2 hpt hptd hbud hX2d HX2
  go_wp2_with fail
  go_region_held3 (fun w' => w'.cell? ⟨L, 0, none⟩ = some (.iface T x) ∧ w'.cell? ⟨w.heap.size, 0, none⟩ = some (.int .i64 dp) ∧ w'.cell? ⟨w.heap.size, 1, none⟩ = some (.slice a ps.length cap) ∧ w'.cell? ⟨w.heap.size, 2, none⟩ = some (.int .i64 un))
    (first | exact ⟨y0, x0, x1, x2⟩ | exact ⟨g0, g1, g2, g3⟩ | exact ⟨l0, l1, l2, l3⟩)
    ((first
      | (go_at_call 110; refine (ins_calls _ dp un _ ps L ?_ (by omega) (by omega) (by omega) (by omega) (by omega)).mono ?_; (exact HPTD.out);
         rintro e w3 ⟨v', cap', rfl, hp3, hb3⟩; have hst := Still.of_below hb3; have g0 := hst _ _ y0; have g1 := hst _ _ x0; have g2 := hst _ _ x1; have g3 := hst _ _ x2;
         have kp3 := HKP.out.drew.of_below hB2 hb3)
      | (go_at_call 67; refine (ih w0 _ B bb (bs ++ [.int .u8 64]) k' ix' (u + 1) (d - 1) (dp + 1) (un + 1) fr' _ _ kids' (ps ++ [L]) ks' ?_ ?_ HLN.out h0 ?_ ?_ ?_ (nodup_snoc HND.out HLP.out) ?_ (by omega) (by simp; omega) (by omega) (by omega) (by omega) (by omega) ?_ ?_ ?_).mono ?_;
         (have := HN.out; simp only [F.sz] at this; omega); (have := HG.out; simp only [F.sz] at this; omega); (exact HW.out.trans (kp3.below.mono h0)); (exact Nat.le_trans hB kp3.below.size); (exact hp3);
         (intro y hy; rcases List.mem_append.1 hy with hy | hy; exact HPB.out y hy; rw [List.mem_singleton.1 hy]; exact ⟨_, HBL.out⟩);
         (have h9 := HVN.out; rw [show (((ps ++ [L]).length : Nat) : Int) = (ps.length : Int) + 1 by simp]; exact h9); (exact bu_below HBUD.out hb3); (have := HL.out; rw [List.length_append]; show bs.length + 1 + _ ≤ _; omega);
         rintro e w4 ⟨rfl, hat4, kp4⟩;
         have kpA := kp3.trans kp4;
         have hbL4 := HBL.out.same ((kpA.below.block L (by omega)).trans (HW.out.block L hLB));
         have l0 : w4.cell? ⟨L, 0, none⟩ = some (.iface T x) := hbL4.cell 0;
         have hX4 := (((Kp.refl B bb w2.drew).of_below hB2 hb3).trans kp4).cells HX2D.out hbwX (by decide);
         have l1 : w4.cell? ⟨w.heap.size, 0, none⟩ = some (.int .i64 dp) := cell_of_heap (o := 0) hX4;
         have l2 : w4.cell? ⟨w.heap.size, 1, none⟩ = some (.slice a ps.length cap) := cell_of_heap (o := 1) hX4;
         have l3 : w4.cell? ⟨w.heap.size, 2, none⟩ = some (.int .i64 un) := cell_of_heap (o := 2) hX4)))
  go_wp2_with fail
  go_end0
  refine ⟨rfl, ?_, kpA⟩
  rw [strCells_append]
  rw [List.append_assoc] at hat4
  exact hat4
end Go.Proofs.YtfppglfajbmapaaDoor.Lo

/- writeLinked of the program: actions; FormatLocal of the program. -/
namespace Go.Proofs.YtfppglfajbmapaaDoor.Lo
open Go.RowKit

theorem mark_false (w : World) : Calls Tryd.prog 111 #[.bool false] w fun e w' => e = .returned (.string ⟨#[33]⟩) ∧ w' = w := by
  go_enter Tryd.func111, Tryd.ntmps111
  go_wp2_with fail
  go_ret
  exact ⟨rfl, rfl⟩
theorem mark_true (w : World) : Calls Tryd.prog 111 #[.bool true] w fun e w' => e = .returned (.string ⟨#[63]⟩) ∧ w' = w := by
  go_enter Tryd.func111, Tryd.ntmps111
  go_wp2_with fail
  go_ret
  exact ⟨rfl, rfl⟩

set_option maxHeartbeats 3200000 in
set_option maxRecDepth 100000 in
theorem wl_act2 (n : Nat) (ih : WlAt n) (w0 w : World) (B bb : Nat) (bs : List Value) (ix d dp un : Int) (fr : ByteArray) (v lv : Value) (kids : F) (ps ks : List Nat) (hn : kids.sz < n + 1) (hbig : kids.sz ≤ 400) (hk : LkN w0 2 fr ix kids ps v ks) (h0 : w0.heap.size ≤ B) (hw : Below w0.heap.size w0 w) (hB : B ≤ w.heap.size)
    (hp : Pt w lv ps) (hnd : ps.Nodup) (hpb : ∀ x, x ∈ ps → ∃ cs, Blk w0 x cs) (hd1 : 1 ≤ d) (hbd : ps.length + d ≤ 40) (hdp : 0 ≤ dp) (hdd : dp + d ≤ 40) (hsh : shapeB 2 fr ix kids = true) (hv : vldF kids ps.length 0 (d - 1) = true)
    (hbu : Lib.IsBuilderF ( /- t -/ 83) ( /- t -/ 5) B bb bs w) (hlen : bs.length + (txN 2 fr ix kids).size ≤ 1048576) :
    Calls Tryd.prog 67 #[.pointer (some ⟨bb, 0, none⟩), v, .agg #[.int .i64 dp, lv, .int .i64 un]] w (WlPost w B bb bs (txN 2 fr ix kids)) := by
  have htx : txN 2 fr ix kids = fr ++ mark 2 ++ txF kids .first ++ bclose := rfl
  obtain ⟨e1, rfl, e5⟩ := shape_act (Or.inl rfl) hsh
  have hfr : fr.size = 1 := role_size e1
  have hmk : mark 2 = ⟨#[33]⟩ := rfl
  have hfm : (fr ++ mark 2).size = 2 := by rw [ByteArray.size_append, mark_size]; omega
  have hl2 : bs.length + 3 + (txF kids .first).size ≤ 1048576 := by
    rw [htx] at hlen
    simp only [ByteArray.size_append, mark_size] at hlen
    have e1 : bclose.size = 1 := rfl
    omega
  obtain ⟨A, r, bc, cs, xs, ks', rfl, hbA, hnc, hcm, hbr, hxs, hlk⟩ := linked_act (Or.inl rfl) hk
  obtain ⟨a, cap, rfl, -, -⟩ := hp.ps.val
  have hb1 := alloc_below w (.cells #[.int .i64 dp, .slice a ps.length cap, .int .i64 un] ( /- t -/ 105))
  have hX := alloc_last w #[.int .i64 dp, .slice a ps.length cap, .int .i64 un] ( /- t -/ 105)
  have hbw := bu_lt hbu
  have hAB : A < w0.heap.size := hbA.lt
  have hrB : r < w0.heap.size := hbr.lt
  have hbA1 : Blk (w.alloc (.cells #[.int .i64 dp, .slice a ps.length cap, .int .i64 un] ( /- t -/ 105))) A #[.int .i64 2, .string fr, .slice (some ⟨r, 0, none⟩) kids.len bc] := (hbA.below hw).below hb1
  have a0 : (w.alloc (.cells #[.int .i64 dp, .slice a ps.length cap, .int .i64 un] ( /- t -/ 105))).cell? ⟨A, 0, none⟩ = some (.int .i64 2) := hbA1.cell 0
  have a1 : (w.alloc (.cells #[.int .i64 dp, .slice a ps.length cap, .int .i64 un] ( /- t -/ 105))).cell? ⟨A, 1, none⟩ = some (.string fr) := hbA1.cell 1
  have hszw := hw.size
  have hAl : A < w.heap.size := by omega
  have hkl : kids.len ≤ 9223372036854775807 := by unfold maxLen at hcm; omega
  have hn1 : ∀ W : World, (Op.stringOp .add fr ⟨#[33]⟩).run Tryd.prog W = .ok (.string (fr ++ mark 2)) W := fun W => run_string_add_sum W _ _ (show fr.size + 1 ≤ _ by omega)
  have HBU := hide hbu
  have HL := hide hl2
  have HB1 := hide hb1
  have HX := hide hX
  have HP := hide hp
  have HND := hide hnd
  have HPB := hide hpb
  have HBA := hide hbA
  have HBR := hide hbr
  have HXS := hide hxs
  have HLK := hide hlk
  have HN := hide hn
  have HG := hide hbig
  have HV := hide hv
  have HW := hide hw
  have HTX := hide htx
  clear hp hbu hlen hl2 hb1 hX hnd hpb hbA hbr hxs hlk hn hbig hw hk hsh hv htx e1 e5 hbA1 hnc hcm hmk
  have n1 := taActEnd
  have n2 := taActVar
  have n3 := taActLoop
  have n4 := taActAct
  go_enter Tryd.func67, Tryd.ntmps67
  go_wp2_with fail
  generalize w.alloc (.cells #[.int .i64 dp, .slice a ps.length cap, .int .i64 un] ( /- t -/ 105)) = W0 at *
  go_still_tail 12, (by kernel_rfl)
  still_call (mark_false _)
  repeat still_step
  refine wpStill_nil ?_
  change wpList _ _ _ _ _ W0.drew
  have HB1 := hide HB1.out.drew
  have HX : Hid (W0.drew.heap[w.heap.size]? = some (.cells #[.int .i64 dp, .slice a ps.length cap, .int .i64 un] ( /- t -/ 105) (0, 0))) := HX
  generalize W0.drew = W1 at *
  go_wp2_with fail
  refine (write_string B bb bs (fr ++ mark 2) _ (bu_below HBU.out HB1.out) (by have := HL.out; omega) (Nat.le_trans hB HB1.out.size)).mono ?_
  rintro e w2 ⟨rfl, hat, hb3, ho3⟩
  have kp := ((Kp.refl B bb w).of_below hB HB1.out).trans ⟨hb3, ho3⟩
  have hX2 := (Kp.mk hb3 ho3).cells HX.out (by omega) (by decide)
  have hbA2 : Blk w2 A #[.int .i64 2, .string fr, .slice (some ⟨r, 0, none⟩) kids.len bc] := HBA.out.same ((kp.below.block A (by omega)).trans (HW.out.block A hAB))
  have b2 : w2.cell? ⟨A, 2, none⟩ = some (.slice (some ⟨r, 0, none⟩) kids.len bc) := hbA2.cell 2
  have hA2 : A < w2.heap.size := hbA2.lt
  have hB2 : B ≤ w2.heap.size := Nat.le_trans hB kp.below.size
  have hpt : Pt w2 (.slice a ps.length cap) ps := HP.out.kp HBU.out kp
  have HPT := hide hpt
  have HAT := hide hat
  have HKP := hide kp
  have HX2 := hide hX2
  clear hb3 ho3 hat kp hX2 hbA2 hpt a0 a1 hn1
  go_wp2_with fail
  go_loopw [10, 65] (fun pv iv wr => ∃ (g : F) (k : Nat) (bs' ys : List Value) (rs : List Nat), k + g.len = kids.len ∧ pv = .string (sepB k) ∧ iv = .int .i64 k ∧ g.sz ≤ kids.sz ∧ Lk w0 g ps ys rs ∧ xs.drop (k * 2) = ys ∧ vldF g ps.length 0 (d - 1) = true ∧
    bs' ++ Lib.strCells (txF g (md k)) = bs ++ Lib.strCells (fr ++ mark 2 ++ txF kids .first) ∧ Lib.IsBuilderF ( /- t -/ 83) ( /- t -/ 5) B bb bs' wr ∧ Kp B bb w2 wr) (fun _ iv _ => kids.len - (intOf iv).toNat)
  case atStart => exact ⟨kids, 0, bs ++ Lib.strCells (fr ++ mark 2), xs, ks', by omega, rfl, rfl, Nat.le_refl _, HLK.out, rfl, HV.out, by rw [strCells_append (fr ++ mark 2), List.append_assoc]; rfl, Or.inr HAT.out, Kp.refl _ _ _⟩
  case round =>
    obtain ⟨g, k, bs', ys, rs, hk, rfl, rfl, h5, hg, hys, hv, htx, hbu, kpr⟩ := hrel
    have hlen' := congrArg List.length htx
    simp only [List.length_append, Lib.strCells_length, ByteArray.size_append, hfr, mark_size] at hlen'
    have HLB := hide hlen'
    have HTX2 := hide htx
    have HBR2 := hide hbu
    have HKR := hide kpr
    have hBr : B ≤ wr.heap.size := Nat.le_trans hB2 kpr.below.size
    cases g with
    | nil =>
      have H5 : Hid (k = kids.len) := by unfold Hid; simpa [F.len] using hk
      have hge : kids.len ≤ k := Nat.le_of_eq H5.out.symm
      clear hk htx hv hbu kpr hlen' hg hys
      go_wp2_with fail
      refine (write_byte B bb bs' 125 _ HBR2.out (by have h1 := HLB.out; have h2 := HL.out; omega) hBr).mono ?_
      rintro e w3 ⟨rfl, hat3, hb3, ho3⟩
      go_wp2_with fail
      go_end0
      refine ⟨rfl, ?_, (HKP.out.trans HKR.out).trans ⟨hb3, ho3⟩⟩
      rw [HTX.out, strCells_append, ← List.append_assoc, ← HTX2.out]
      have e9 : Lib.strCells (txF F.nil (md k)) = [] := rfl
      rw [e9, List.append_nil]
      exact Or.inr hat3
    | cons lab kd fr' ix' kids' rest =>
      rw [txF_md] at htx
      have hlt : k < kids.len := by simp only [F.len] at hk; omega
      obtain ⟨T, x, ys', k1, r1, q0, q1, hln, hrest, hdrop⟩ := linked_next hg hys HBR.out HXS.out
      have kpw := HKP.out.trans kpr
      have hst : ∀ o v, w0.cell? ⟨r, o, none⟩ = some v → wr.cell? ⟨r, o, none⟩ = some v := fun o v h => by
        rw [Same.cell ((kpw.below.block r (by omega)).trans (HW.out.block r hrB))]
        exact h
      have q0 := hst _ _ q0
      have q1 := hst _ _ q1
      have hrr : r < wr.heap.size := World.block_lt_of_cell? _ _ q0
      simp only [vldF, Bool.and_eq_true] at hv
      have HK := hide hk
      have HX3 := hide htx
      have HLN := hide hln
      have HRE := hide hrest
      have HDR := hide hdrop
      have HVN := hide hv
      have H5 := hide h5
      have hz : bs'.length + 1 + lab.size + (txN kd fr' ix' kids').size ≤ 1048576 := by
        have h1 := HLB.out
        have h2 := HL.out
        rw [txF_md] at h1
        simp only [ByteArray.size_append, sepB_size] at h1
        omega
      have hsl : (sepB k).size = 1 := sepB_size k
      have HZ := hide hz
      have hls : lab.size ≤ 1048576 := by omega
      have hn2 : ∀ W : World, (Op.stringOp .add (sepB k) lab).run Tryd.prog W = .ok (.string (sepB k ++ lab)) W := fun W => run_string_add_sum W _ _ (by rw [hsl]; omega)
      have hptr := HPT.out.kp (Or.inr HAT.out) kpr
      have HPR := hide hptr
      have hb4 := alloc_below wr (.cells #[.string lab, .iface T x] ( /- t -/ 178))
      have hcl := alloc_last wr #[.string lab, .iface T x] ( /- t -/ 178)
      have hbbr : bb < wr.heap.size := Nat.lt_of_lt_of_le hbw (Nat.le_trans HKP.out.below.size kpr.below.size)
      have hXr := kpr.cells HX2.out (by omega) (by decide)
      have HXR := hide hXr
      have HCL := hide hcl
      have HB4 := hide hb4
      clear hk h5 hg hys htx hv hbu kpr hlen' hz hst hln hrest hdrop kpw hptr hb4 hcl hXr
      go_wp2_with fail
      refine (write_string B bb bs' (sepB k ++ lab) _ (bu_below HBR2.out HB4.out) (by have := HZ.out; rw [ByteArray.size_append, hsl]; omega) (Nat.le_trans hBr HB4.out.size)).mono ?_
      rintro e w4 ⟨rfl, hat4, hb5, ho5⟩
      have kp4 := (HKR.out.of_below hBr HB4.out).trans ⟨hb5, ho5⟩
      have kp34 := ((Kp.refl B bb wr).of_below hBr HB4.out).trans ⟨hb5, ho5⟩
      have hY := (Kp.mk hb5 ho5).cells HCL.out (by omega) (by decide)
      have z1 : w4.cell? ⟨wr.heap.size, 1, none⟩ = some (.iface T x) := cell_of_heap (o := 1) hY
      have hYl : wr.heap.size < w4.heap.size := World.block_lt_of_cell? _ _ z1
      have hX4 := kp34.cells HXR.out (by omega) (by decide)
      have x0 : w4.cell? ⟨w.heap.size, 0, none⟩ = some (.int .i64 dp) := cell_of_heap (o := 0) hX4
      have x1 : w4.cell? ⟨w.heap.size, 1, none⟩ = some (.slice a ps.length cap) := cell_of_heap (o := 1) hX4
      have x2 : w4.cell? ⟨w.heap.size, 2, none⟩ = some (.int .i64 un) := cell_of_heap (o := 2) hX4
      have hXl : w.heap.size < w4.heap.size := World.block_lt_of_cell? _ _ x0
      have hB4 : B ≤ w4.heap.size := Nat.le_trans hBr kp34.below.size
      have hptd : Pt w4.drew (.slice a ps.length cap) ps := HPR.out.kp HBR2.out kp34.drew
      have HPTD := hide hptd
      have hbud : Lib.IsBuilderF ( /- t -/ 83) ( /- t -/ 5) B bb (bs' ++ Lib.strCells (sepB k ++ lab)) w4.drew := Or.inr hat4
      have HBUD := hide hbud
      have hYd : w4.drew.heap[wr.heap.size]? = some (.cells #[.string lab, .iface T x] ( /- t -/ 178) (0, 0)) := hY
      have hXd : w4.drew.heap[w.heap.size]? = some (.cells #[.int .i64 dp, .slice a ps.length cap, .int .i64 un] ( /- t -/ 105) (0, 0)) := hX4
      have HYD := hide hYd
      have HXD := hide hXd
      have HKP4 := hide kp4
      have hneY : wr.heap.size ≠ bb := by omega
      have hneX : w.heap.size ≠ bb := by omega
      clear q0 q1 hb5 ho5 hat4 kp4 kp34 hY hX4 hptd hbud hYd hXd hn2
      go_wp2_with fail
      go_region_held3 (fun w' => w'.cell? ⟨wr.heap.size, 1, none⟩ = some (.iface T x) ∧ w'.cell? ⟨w.heap.size, 0, none⟩ = some (.int .i64 dp) ∧ w'.cell? ⟨w.heap.size, 1, none⟩ = some (.slice a ps.length cap) ∧ w'.cell? ⟨w.heap.size, 2, none⟩ = some (.int .i64 un))
        (first | exact ⟨z1, x0, x1, x2⟩ | exact ⟨g0, g1, g2, g3⟩ | exact ⟨l0, l1, l2, l3⟩)
        ((first
          | (go_at_call 112; refine (below_calls _ dp un _ ps ?_ (by omega) (by omega)).mono ?_; (exact HPTD.out.ps);
             rintro e w5 ⟨rfl, hb6⟩; have hst := Still.of_below hb6; have g0 := hst _ _ z1; have g1 := hst _ _ x0; have g2 := hst _ _ x1; have g3 := hst _ _ x2;
             have kp5 := HKP4.out.drew.of_below hB4 hb6)
          | (go_at_call 67; refine (ih w0 _ B bb (bs' ++ Lib.strCells (sepB k ++ lab)) kd ix' 0 (d - 1) (dp + 1) 0 fr' _ _ kids' ps k1 ?_ ?_ HLN.out h0 ?_ ?_ ?_ HND.out HPB.out (by omega) (by omega) (by omega) (by omega) (by omega) (by omega) HVN.out.1 ?_ ?_).mono ?_;
             (have h1 := H5.out; have h2 := HN.out; simp only [F.sz] at h1; omega); (have h1 := H5.out; have h2 := HG.out; simp only [F.sz] at h1; omega); (exact HW.out.trans ((HKP.out.trans kp5).below.mono h0)); (exact Nat.le_trans hB4 hb6.size); (exact HPTD.out.below hb6);
             (exact bu_below HBUD.out hb6); (have := HZ.out; rw [List.length_append, Lib.strCells_length, ByteArray.size_append, hsl]; omega);
             rintro e w6 ⟨rfl, hat6, kp6⟩;
             have kpB := ((Kp.refl B bb w4.drew).of_below hB4 hb6).trans kp6;
             have hY6 := kpB.cells HYD.out hneY (by decide);
             have hX6 := kpB.cells HXD.out hneX (by decide);
             have l0 : w6.cell? ⟨wr.heap.size, 1, none⟩ = some (.iface T x) := cell_of_heap (o := 1) hY6;
             have l1 : w6.cell? ⟨w.heap.size, 0, none⟩ = some (.int .i64 dp) := cell_of_heap (o := 0) hX6;
             have l2 : w6.cell? ⟨w.heap.size, 1, none⟩ = some (.slice a ps.length cap) := cell_of_heap (o := 1) hX6;
             have l3 : w6.cell? ⟨w.heap.size, 2, none⟩ = some (.int .i64 un) := cell_of_heap (o := 2) hX6)))
      have hkpf := kp5.trans kp6
      have HF := hide hkpf
      have HAT6 := hide hat6
      clear hst g0 g1 g2 g3 l0 l1 l2 l3 hY6 hX6 kpB kp5 kp6 hkpf hat6 hb6 z1 x0 x1 x2
      go_wp2_with fail
      refine ⟨⟨rest, k + 1, bs' ++ Lib.strCells (sepB k ++ lab) ++ Lib.strCells (txN kd fr' ix' kids'), ys', r1, ?_, ?_, by go_num, ?_, HRE.out, HDR.out, HVN.out.2, ?_, HAT6.out, HF.out⟩, by simp [intOf]; omega⟩
      · have := HK.out
        simp only [F.len] at this
        omega
      · unfold sepB
        rw [if_neg (by omega)]
        rfl
      · have := H5.out
        simp only [F.sz] at this
        omega
      · rw [← HX3.out]
        simp only [strCells_append, List.append_assoc]

set_option maxHeartbeats 3200000 in
set_option maxRecDepth 100000 in
theorem wl_act3 (n : Nat) (ih : WlAt n) (w0 w : World) (B bb : Nat) (bs : List Value) (ix d dp un : Int) (fr : ByteArray) (v lv : Value) (kids : F) (ps ks : List Nat) (hn : kids.sz < n + 1) (hbig : kids.sz ≤ 400) (hk : LkN w0 3 fr ix kids ps v ks) (h0 : w0.heap.size ≤ B) (hw : Below w0.heap.size w0 w) (hB : B ≤ w.heap.size)
    (hp : Pt w lv ps) (hnd : ps.Nodup) (hpb : ∀ x, x ∈ ps → ∃ cs, Blk w0 x cs) (hd1 : 1 ≤ d) (hbd : ps.length + d ≤ 40) (hdp : 0 ≤ dp) (hdd : dp + d ≤ 40) (hsh : shapeB 3 fr ix kids = true) (hv : vldF kids ps.length 0 (d - 1) = true)
    (hbu : Lib.IsBuilderF ( /- t -/ 83) ( /- t -/ 5) B bb bs w) (hlen : bs.length + (txN 3 fr ix kids).size ≤ 1048576) :
    Calls Tryd.prog 67 #[.pointer (some ⟨bb, 0, none⟩), v, .agg #[.int .i64 dp, lv, .int .i64 un]] w (WlPost w B bb bs (txN 3 fr ix kids)) := by
  have htx : txN 3 fr ix kids = fr ++ mark 3 ++ txF kids .first ++ bclose := rfl
  obtain ⟨e1, rfl, e5⟩ := shape_act (Or.inr rfl) hsh
  have hfr : fr.size = 1 := role_size e1
  have hmk : mark 3 = ⟨#[63]⟩ := rfl
  have hfm : (fr ++ mark 3).size = 2 := by rw [ByteArray.size_append, mark_size]; omega
  have hl2 : bs.length + 3 + (txF kids .first).size ≤ 1048576 := by
    rw [htx] at hlen
    simp only [ByteArray.size_append, mark_size] at hlen
    have e1 : bclose.size = 1 := rfl
    omega
  obtain ⟨A, r, bc, cs, xs, ks', rfl, hbA, hnc, hcm, hbr, hxs, hlk⟩ := linked_act (Or.inr rfl) hk
  obtain ⟨a, cap, rfl, -, -⟩ := hp.ps.val
  have hb1 := alloc_below w (.cells #[.int .i64 dp, .slice a ps.length cap, .int .i64 un] ( /- t -/ 105))
  have hX := alloc_last w #[.int .i64 dp, .slice a ps.length cap, .int .i64 un] ( /- t -/ 105)
  have hbw := bu_lt hbu
  have hAB : A < w0.heap.size := hbA.lt
  have hrB : r < w0.heap.size := hbr.lt
  have hbA1 : Blk (w.alloc (.cells #[.int .i64 dp, .slice a ps.length cap, .int .i64 un] ( /- t -/ 105))) A #[.int .i64 3, .string fr, .slice (some ⟨r, 0, none⟩) kids.len bc] := (hbA.below hw).below hb1
  have a0 : (w.alloc (.cells #[.int .i64 dp, .slice a ps.length cap, .int .i64 un] ( /- t -/ 105))).cell? ⟨A, 0, none⟩ = some (.int .i64 3) := hbA1.cell 0
  have a1 : (w.alloc (.cells #[.int .i64 dp, .slice a ps.length cap, .int .i64 un] ( /- t -/ 105))).cell? ⟨A, 1, none⟩ = some (.string fr) := hbA1.cell 1
  have hszw := hw.size
  have hAl : A < w.heap.size := by omega
  have hkl : kids.len ≤ 9223372036854775807 := by unfold maxLen at hcm; omega
  have hn1 : ∀ W : World, (Op.stringOp .add fr ⟨#[63]⟩).run Tryd.prog W = .ok (.string (fr ++ mark 3)) W := fun W => run_string_add_sum W _ _ (show fr.size + 1 ≤ _ by omega)
  have HBU := hide hbu
  have HL := hide hl2
  have HB1 := hide hb1
  have HX := hide hX
  have HP := hide hp
  have HND := hide hnd
  have HPB := hide hpb
  have HBA := hide hbA
  have HBR := hide hbr
  have HXS := hide hxs
  have HLK := hide hlk
  have HN := hide hn
  have HG := hide hbig
  have HV := hide hv
  have HW := hide hw
  have HTX := hide htx
  clear hp hbu hlen hl2 hb1 hX hnd hpb hbA hbr hxs hlk hn hbig hw hk hsh hv htx e1 e5 hbA1 hnc hcm hmk
  have n1 := taActEnd
  have n2 := taActVar
  have n3 := taActLoop
  have n4 := taActAct
  go_enter Tryd.func67, Tryd.ntmps67
  go_wp2_with fail
  generalize w.alloc (.cells #[.int .i64 dp, .slice a ps.length cap, .int .i64 un] ( /- t -/ 105)) = W0 at *
  go_still_tail 12, (by kernel_rfl)
  still_call (mark_true _)
  repeat still_step
  refine wpStill_nil ?_
  change wpList _ _ _ _ _ W0.drew
  have HB1 := hide HB1.out.drew
  have HX : Hid (W0.drew.heap[w.heap.size]? = some (.cells #[.int .i64 dp, .slice a ps.length cap, .int .i64 un] ( /- t -/ 105) (0, 0))) := HX
  generalize W0.drew = W1 at *
  go_wp2_with fail
  refine (write_string B bb bs (fr ++ mark 3) _ (bu_below HBU.out HB1.out) (by have := HL.out; omega) (Nat.le_trans hB HB1.out.size)).mono ?_
  rintro e w2 ⟨rfl, hat, hb3, ho3⟩
  have kp := ((Kp.refl B bb w).of_below hB HB1.out).trans ⟨hb3, ho3⟩
  have hX2 := (Kp.mk hb3 ho3).cells HX.out (by omega) (by decide)
  have hbA2 : Blk w2 A #[.int .i64 3, .string fr, .slice (some ⟨r, 0, none⟩) kids.len bc] := HBA.out.same ((kp.below.block A (by omega)).trans (HW.out.block A hAB))
  have b2 : w2.cell? ⟨A, 2, none⟩ = some (.slice (some ⟨r, 0, none⟩) kids.len bc) := hbA2.cell 2
  have hA2 : A < w2.heap.size := hbA2.lt
  have hB2 : B ≤ w2.heap.size := Nat.le_trans hB kp.below.size
  have hpt : Pt w2 (.slice a ps.length cap) ps := HP.out.kp HBU.out kp
  have HPT := hide hpt
  have HAT := hide hat
  have HKP := hide kp
  have HX2 := hide hX2
  clear hb3 ho3 hat kp hX2 hbA2 hpt a0 a1 hn1
  go_wp2_with fail
  go_loopw [10, 65] (fun pv iv wr => ∃ (g : F) (k : Nat) (bs' ys : List Value) (rs : List Nat), k + g.len = kids.len ∧ pv = .string (sepB k) ∧ iv = .int .i64 k ∧ g.sz ≤ kids.sz ∧ Lk w0 g ps ys rs ∧ xs.drop (k * 2) = ys ∧ vldF g ps.length 0 (d - 1) = true ∧
    bs' ++ Lib.strCells (txF g (md k)) = bs ++ Lib.strCells (fr ++ mark 3 ++ txF kids .first) ∧ Lib.IsBuilderF ( /- t -/ 83) ( /- t -/ 5) B bb bs' wr ∧ Kp B bb w2 wr) (fun _ iv _ => kids.len - (intOf iv).toNat)
  case atStart => exact ⟨kids, 0, bs ++ Lib.strCells (fr ++ mark 3), xs, ks', by omega, rfl, rfl, Nat.le_refl _, HLK.out, rfl, HV.out, by rw [strCells_append (fr ++ mark 3), List.append_assoc]; rfl, Or.inr HAT.out, Kp.refl _ _ _⟩
  case round =>
    obtain ⟨g, k, bs', ys, rs, hk, rfl, rfl, h5, hg, hys, hv, htx, hbu, kpr⟩ := hrel
    have hlen' := congrArg List.length htx
    simp only [List.length_append, Lib.strCells_length, ByteArray.size_append, hfr, mark_size] at hlen'
    have HLB := hide hlen'
    have HTX2 := hide htx
    have HBR2 := hide hbu
    have HKR := hide kpr
    have hBr : B ≤ wr.heap.size := Nat.le_trans hB2 kpr.below.size
    cases g with
    | nil =>
      have H5 : Hid (k = kids.len) := by unfold Hid; simpa [F.len] using hk
      have hge : kids.len ≤ k := Nat.le_of_eq H5.out.symm
      clear hk htx hv hbu kpr hlen' hg hys
      go_wp2_with fail
      refine (write_byte B bb bs' 125 _ HBR2.out (by have h1 := HLB.out; have h2 := HL.out; omega) hBr).mono ?_
      rintro e w3 ⟨rfl, hat3, hb3, ho3⟩
      go_wp2_with fail
      go_end0
      refine ⟨rfl, ?_, (HKP.out.trans HKR.out).trans ⟨hb3, ho3⟩⟩
      rw [HTX.out, strCells_append, ← List.append_assoc, ← HTX2.out]
      have e9 : Lib.strCells (txF F.nil (md k)) = [] := rfl
      rw [e9, List.append_nil]
      exact Or.inr hat3
    | cons lab kd fr' ix' kids' rest =>
      rw [txF_md] at htx
      have hlt : k < kids.len := by simp only [F.len] at hk; omega
      obtain ⟨T, x, ys', k1, r1, q0, q1, hln, hrest, hdrop⟩ := linked_next hg hys HBR.out HXS.out
      have kpw := HKP.out.trans kpr
      have hst : ∀ o v, w0.cell? ⟨r, o, none⟩ = some v → wr.cell? ⟨r, o, none⟩ = some v := fun o v h => by
        rw [Same.cell ((kpw.below.block r (by omega)).trans (HW.out.block r hrB))]
        exact h
      have q0 := hst _ _ q0
      have q1 := hst _ _ q1
      have hrr : r < wr.heap.size := World.block_lt_of_cell? _ _ q0
      simp only [vldF, Bool.and_eq_true] at hv
      have HK := hide hk
      have HX3 := hide htx
      have HLN := hide hln
      have HRE := hide hrest
      have HDR := hide hdrop
      have HVN := hide hv
      have H5 := hide h5
      have hz : bs'.length + 1 + lab.size + (txN kd fr' ix' kids').size ≤ 1048576 := by
        have h1 := HLB.out
        have h2 := HL.out
        rw [txF_md] at h1
        simp only [ByteArray.size_append, sepB_size] at h1
        omega
      have hsl : (sepB k).size = 1 := sepB_size k
      have HZ := hide hz
      have hls : lab.size ≤ 1048576 := by omega
      have hn2 : ∀ W : World, (Op.stringOp .add (sepB k) lab).run Tryd.prog W = .ok (.string (sepB k ++ lab)) W := fun W => run_string_add_sum W _ _ (by rw [hsl]; omega)
      have hptr := HPT.out.kp (Or.inr HAT.out) kpr
      have HPR := hide hptr
      have hb4 := alloc_below wr (.cells #[.string lab, .iface T x] ( /- t -/ 178))
      have hcl := alloc_last wr #[.string lab, .iface T x] ( /- t -/ 178)
      have hbbr : bb < wr.heap.size := Nat.lt_of_lt_of_le hbw (Nat.le_trans HKP.out.below.size kpr.below.size)
      have hXr := kpr.cells HX2.out (by omega) (by decide)
      have HXR := hide hXr
      have HCL := hide hcl
      have HB4 := hide hb4
      clear hk h5 hg hys htx hv hbu kpr hlen' hz hst hln hrest hdrop kpw hptr hb4 hcl hXr
      go_wp2_with fail
      refine (write_string B bb bs' (sepB k ++ lab) _ (bu_below HBR2.out HB4.out) (by have := HZ.out; rw [ByteArray.size_append, hsl]; omega) (Nat.le_trans hBr HB4.out.size)).mono ?_
      rintro e w4 ⟨rfl, hat4, hb5, ho5⟩
      have kp4 := (HKR.out.of_below hBr HB4.out).trans ⟨hb5, ho5⟩
      have kp34 := ((Kp.refl B bb wr).of_below hBr HB4.out).trans ⟨hb5, ho5⟩
      have hY := (Kp.mk hb5 ho5).cells HCL.out (by omega) (by decide)
      have z1 : w4.cell? ⟨wr.heap.size, 1, none⟩ = some (.iface T x) := cell_of_heap (o := 1) hY
      have hYl : wr.heap.size < w4.heap.size := World.block_lt_of_cell? _ _ z1
      have hX4 := kp34.cells HXR.out (by omega) (by decide)
      have x0 : w4.cell? ⟨w.heap.size, 0, none⟩ = some (.int .i64 dp) := cell_of_heap (o := 0) hX4
      have x1 : w4.cell? ⟨w.heap.size, 1, none⟩ = some (.slice a ps.length cap) := cell_of_heap (o := 1) hX4
      have x2 : w4.cell? ⟨w.heap.size, 2, none⟩ = some (.int .i64 un) := cell_of_heap (o := 2) hX4
      have hXl : w.heap.size < w4.heap.size := World.block_lt_of_cell? _ _ x0
      have hB4 : B ≤ w4.heap.size := Nat.le_trans hBr kp34.below.size
      have hptd : Pt w4.drew (.slice a ps.length cap) ps := HPR.out.kp HBR2.out kp34.drew
      have HPTD := hide hptd
      have hbud : Lib.IsBuilderF ( /- t -/ 83) ( /- t -/ 5) B bb (bs' ++ Lib.strCells (sepB k ++ lab)) w4.drew := Or.inr hat4
      have HBUD := hide hbud
      have hYd : w4.drew.heap[wr.heap.size]? = some (.cells #[.string lab, .iface T x] ( /- t -/ 178) (0, 0)) := hY
      have hXd : w4.drew.heap[w.heap.size]? = some (.cells #[.int .i64 dp, .slice a ps.length cap, .int .i64 un] ( /- t -/ 105) (0, 0)) := hX4
      have HYD := hide hYd
      have HXD := hide hXd
      have HKP4 := hide kp4
      have hneY : wr.heap.size ≠ bb := by omega
      have hneX : w.heap.size ≠ bb := by omega
      clear q0 q1 hb5 ho5 hat4 kp4 kp34 hY hX4 hptd hbud hYd hXd hn2
      go_wp2_with fail
      go_region_held3 (fun w' => w'.cell? ⟨wr.heap.size, 1, none⟩ = some (.iface T x) ∧ w'.cell? ⟨w.heap.size, 0, none⟩ = some (.int .i64 dp) ∧ w'.cell? ⟨w.heap.size, 1, none⟩ = some (.slice a ps.length cap) ∧ w'.cell? ⟨w.heap.size, 2, none⟩ = some (.int .i64 un))
        (first | exact ⟨z1, x0, x1, x2⟩ | exact ⟨g0, g1, g2, g3⟩ | exact ⟨l0, l1, l2, l3⟩)
        ((first
          | (go_at_call 112; refine (below_calls _ dp un _ ps ?_ (by omega) (by omega)).mono ?_; (exact HPTD.out.ps);
             rintro e w5 ⟨rfl, hb6⟩; have hst := Still.of_below hb6; have g0 := hst _ _ z1; have g1 := hst _ _ x0; have g2 := hst _ _ x1; have g3 := hst _ _ x2;
             have kp5 := HKP4.out.drew.of_below hB4 hb6)
          | (go_at_call 67; refine (ih w0 _ B bb (bs' ++ Lib.strCells (sepB k ++ lab)) kd ix' 0 (d - 1) (dp + 1) 0 fr' _ _ kids' ps k1 ?_ ?_ HLN.out h0 ?_ ?_ ?_ HND.out HPB.out (by omega) (by omega) (by omega) (by omega) (by omega) (by omega) HVN.out.1 ?_ ?_).mono ?_;
             (have h1 := H5.out; have h2 := HN.out; simp only [F.sz] at h1; omega); (have h1 := H5.out; have h2 := HG.out; simp only [F.sz] at h1; omega); (exact HW.out.trans ((HKP.out.trans kp5).below.mono h0)); (exact Nat.le_trans hB4 hb6.size); (exact HPTD.out.below hb6);
             (exact bu_below HBUD.out hb6); (have := HZ.out; rw [List.length_append, Lib.strCells_length, ByteArray.size_append, hsl]; omega);
             rintro e w6 ⟨rfl, hat6, kp6⟩;
             have kpB := ((Kp.refl B bb w4.drew).of_below hB4 hb6).trans kp6;
             have hY6 := kpB.cells HYD.out hneY (by decide);
             have hX6 := kpB.cells HXD.out hneX (by decide);
             have l0 : w6.cell? ⟨wr.heap.size, 1, none⟩ = some (.iface T x) := cell_of_heap (o := 1) hY6;
             have l1 : w6.cell? ⟨w.heap.size, 0, none⟩ = some (.int .i64 dp) := cell_of_heap (o := 0) hX6;
             have l2 : w6.cell? ⟨w.heap.size, 1, none⟩ = some (.slice a ps.length cap) := cell_of_heap (o := 1) hX6;
             have l3 : w6.cell? ⟨w.heap.size, 2, none⟩ = some (.int .i64 un) := cell_of_heap (o := 2) hX6)))
      have hkpf := kp5.trans kp6
      have HF := hide hkpf
      have HAT6 := hide hat6
      clear hst g0 g1 g2 g3 l0 l1 l2 l3 hY6 hX6 kpB kp5 kp6 hkpf hat6 hb6 z1 x0 x1 x2
      go_wp2_with fail
      refine ⟨⟨rest, k + 1, bs' ++ Lib.strCells (sepB k ++ lab) ++ Lib.strCells (txN kd fr' ix' kids'), ys', r1, ?_, ?_, by go_num, ?_, HRE.out, HDR.out, HVN.out.2, ?_, HAT6.out, HF.out⟩, by simp [intOf]; omega⟩
      · have := HK.out
        simp only [F.len] at this
        omega
      · unfold sepB
        rw [if_neg (by omega)]
        rfl
      · have := H5.out
        simp only [F.sz] at this
        omega
      · rw [← HX3.out]
        simp only [strCells_append, List.append_assoc]

theorem wl_all : ∀ n, WlAt n := by
  intro n
  induction n with
  | zero => intro w0 w B bb bs k ix u d dp un fr v lv kids ps ks hn; omega
  | succ n ih =>
    intro w0 w B bb bs k ix u d dp un fr v lv kids ps ks hn hbig hk h0 hw hB hp hnd hpb hu hbd hdp hdd hun hund hv hbu hlen
    have hv2 := hv
    unfold vldN at hv2
    obtain ⟨hd, hsh, hkk⟩ := node_kinds hu hv2
    rcases hkk with rfl | ⟨rfl, hi, hi1, -⟩ | ⟨rfl, h3⟩ | ⟨h2, h3⟩
    · rcases hk with ⟨-, rfl, -⟩ | ⟨h, -⟩ | ⟨h, -⟩ | ⟨h, -⟩
      · exact wl_end w B bb bs ix dp un fr lv kids ps hB hp hbu hlen
      · exact absurd h (by decide)
      · exact absurd h (by decide)
      · rcases h with h | h <;> exact absurd h (by decide)
    · rcases hk with ⟨h, -⟩ | ⟨-, ⟨l, h1, h2, h3, rfl⟩, -⟩ | ⟨h, -⟩ | ⟨h, -⟩
      · exact absurd h (by decide)
      · obtain ⟨i, rfl⟩ := Int.eq_ofNat_of_zero_le h1
        exact wl_var w0 w B bb bs i (ps.length - 1 - i) l dp un fr lv kids ps hB hw hp hnd hpb (by simpa using h3) (by omega) (by omega) hbu hlen
      · exact absurd h (by decide)
      · rcases h with h | h <;> exact absurd h (by decide)
    · exact wl_rec n ih w0 w B bb bs ix u d dp un fr v lv kids ps ks hn hbig hk h0 hw hB hp hnd hpb hu hd hbd hdp hdd hun hund hsh h3 hbu hlen
    · rcases h2 with rfl | rfl
      · exact wl_act2 n ih w0 w B bb bs ix d dp un fr v lv kids ps ks hn hbig hk h0 hw hB hp hnd hpb hd hbd hdp hdd hsh h3 hbu hlen
      · exact wl_act3 n ih w0 w B bb bs ix d dp un fr v lv kids ps ks hn hbig hk h0 hw hB hp hnd hpb hd hbd hdp hdd hsh h3 hbu hlen

theorem string_any (B b : Nat) (s : ByteArray) (w : World) (h : Lib.IsBuilderF ( /- t -/ 83) ( /- t -/ 5) B b (Lib.strCells s) w) (hBw : B ≤ w.heap.size) :
    Calls Tryd.prog 51 #[.pointer (some ⟨b, 0, none⟩)] w fun e w' => e = .returned (.string s) ∧ Below B w w' := by
  refine (Tryd.Builder_String_any_k B b s.data.toList w h hBw).mono ?_
  rintro e w' ⟨rfl, -, hb, -⟩
  exact ⟨rfl, hb⟩

set_option maxHeartbeats 400000 in
set_option maxRecDepth 100000 in
/-- FormatLocal of the program. -/
theorem implFormat (w : World) (k ix : Int) (fr : ByteArray) (sv : Value) (kids : F) (hs : Sl w sv kids) :
    Calls Tryd.prog 27 #[.agg #[.int .i64 k, .string fr, .int .i64 ix, sv]] w fun e w' => e = .returned (.string (textN k fr ix kids)) ∧ Below w.heap.size w w' := by
  have HS := hide hs
  clear hs
  go_enter Tryd.func27, Tryd.ntmps27
  go_wp2_with fail
  refine (implLink _ k ix fr sv kids (HS.out.still (Still.of_below (alloc_below _ _)))).mono ?_
  rintro e w1 ⟨u, ks, rfl, hu, hb, hok⟩
  have hb2 := alloc_then hb
  have HOK := hide hok
  clear hb hok
  cases hv : okN k fr ix kids with
  | false =>
    have HU := hide hu
    clear hu
    go_wp2_with fail
    go_ret
    refine ⟨?_, hb2⟩
    unfold textN
    rw [hv]
    rfl
  | true =>
    have HV := hide hv
    have h2 := hv
    unfold okN at h2
    simp only [Bool.and_eq_true, decide_eq_true_eq] at h2
    have H2 := hide h2
    have hln := (HOK.out hv).1
    have HLN := hide hln
    obtain ⟨T, x, rfl⟩ := hln.val
    have hbu : Lib.IsBuilderF ( /- t -/ 83) ( /- t -/ 5) w1.heap.size w1.heap.size [] (w1.alloc (.cells #[.pointer none, .slice none 0 0] ( /- t -/ 83))) := Lib.IsBuilderF.of (Lib.fresh_isBuilder _ _ _)
    have HBU := hide hbu
    have hb3 := alloc_below w1 (.cells #[.pointer none, .slice none 0 0] ( /- t -/ 83))
    have hsz := txN_size (b := 0) (u := 0) (by omega) (by omega) (by omega) h2.1
    have HZ : Hid ((txN k fr ix kids).size ≤ 1048576) := by unfold Hid; omega
    clear hv h2 hbu hsz hln hu
    go_wp2_with fail
    refine (wl_all (kids.sz + 1) w1 _ w1.heap.size w1.heap.size [] k ix 0 40 0 0 fr _ _ kids [] ks (Nat.lt_succ_self _) (by have := H2.out.2; omega) HLN.out (Nat.le_refl _) hb3 hb3.size (Pt.nil _) List.nodup_nil (fun x h => absurd h (List.not_mem_nil)) (by omega) (by simp) (by omega) (by omega) (by omega) (by omega) H2.out.1 HBU.out (by have := HZ.out; simpa using this)).mono ?_
    rintro e w2 ⟨rfl, hat, kp⟩
    have hb4 := hb3.trans kp.below
    have HAT := hide hat
    clear kp hat hb3
    go_wp2_with fail
    refine (string_any w1.heap.size w1.heap.size (txN k fr ix kids) w2 HAT.out hb4.size).mono ?_
    rintro e w3 ⟨rfl, hb5⟩
    have hb6 := hb2.trans ((hb4.trans hb5).mono hb2.size)
    clear hb4 hb5
    go_wp2_with fail
    go_ret
    refine ⟨?_, hb6⟩
    unfold textN
    rw [HV.out]
    rfl
end Go.Proofs.YtfppglfajbmapaaDoor.Lo

/- WriteRune of strings.Builder at this program: the shelf's contract laid by hand (as WriteByte's and WriteString's). -/
namespace Go.Proofs.YtfppglfajbmapaaDoor
open Go.RowKit

/-- The table of numbers. -/
def Tryd.br_ren : Go.Shelf.Ren := ⟨fun | 168 => ( /- f -/ 105) | 240 => ( /- f -/ 147) | 242 => ( /- f -/ 154) | 276 => ( /- f -/ 175) | 278 => ( /- f -/ 182) | n => n, fun | 0 => ( /- t -/ 0) | 3 => ( /- t -/ 3) | 4 => ( /- t -/ 4) | 5 => ( /- t -/ 5) | 9 => ( /- t -/ 9) | 20 => ( /- t -/ 20) | 21 => ( /- t -/ 21) | 37 => ( /- t -/ 22) | 46 => ( /- t -/ 250) | 51 => ( /- t -/ 258) | 70 => ( /- t -/ 81) | 72 => ( /- t -/ 83) | 75 => ( /- t -/ 152) | 80 => ( /- t -/ 85) | 164 => ( /- t -/ 251) | n => n, fun n => n⟩
theorem Tryd.br_lays168 : Go.Proofs.Lays.n168 Tryd.prog Tryd.br_ren where
  mixed := by kernel_rfl
  f168 := Tryd.func105.trans (congrArg some (by kernel_rfl))
  f240 := Tryd.func147.trans (congrArg some (by kernel_rfl))
  f242 := Tryd.func154.trans (congrArg some (by kernel_rfl))
  f276 := Tryd.func175.trans (congrArg some (by kernel_rfl))
  f278 := Tryd.func182.trans (congrArg some (by kernel_rfl))
  t0 := Tryd.underlying0
  a0 := Tryd.isAgg0
  z0 := Tryd.sizeOf0
  v0 := Tryd.zeroValue0
  t3 := Tryd.underlying3
  a3 := Tryd.isAgg3
  z3 := Tryd.sizeOf3
  v3 := Tryd.zeroValue3
  t4 := Tryd.underlying4
  a4 := Tryd.isAgg4
  z4 := Tryd.sizeOf4
  v4 := Tryd.zeroValue4
  t5 := Tryd.underlying5
  a5 := Tryd.isAgg5
  z5 := Tryd.sizeOf5
  v5 := Tryd.zeroValue5
  t9 := Tryd.underlying9
  a9 := Tryd.isAgg9
  z9 := Tryd.sizeOf9
  v9 := Tryd.zeroValue9
  t20 := Tryd.underlying20
  a20 := Tryd.isAgg20
  z20 := Tryd.sizeOf20
  v20 := Tryd.zeroValue20
  t21 := Tryd.underlying21
  a21 := Tryd.isAgg21
  z21 := Tryd.sizeOf21
  v21 := Tryd.zeroValue21
  t37 := Tryd.underlying22
  a37 := Tryd.isAgg22
  z37 := Tryd.sizeOf22
  v37 := Tryd.zeroValue22
  t46 := Tryd.underlying250
  a46 := Tryd.isAgg250
  z46 := Tryd.sizeOf250
  v46 := Tryd.zeroValue250
  t51 := Tryd.underlying258
  a51 := Tryd.isAgg258
  z51 := Tryd.sizeOf258
  v51 := Tryd.zeroValue258
  t70 := Tryd.underlying81
  a70 := Tryd.isAgg81
  z70 := Tryd.sizeOf81
  v70 := Tryd.zeroValue81
  t72 := Tryd.underlying83
  a72 := Tryd.isAgg83
  z72 := Tryd.sizeOf83
  v72 := Tryd.zeroValue83
  t75 := Tryd.underlying152
  a75 := Tryd.isAgg152
  z75 := Tryd.sizeOf152
  v75 := Tryd.zeroValue152
  t164 := Tryd.underlying251
  a164 := Tryd.isAgg251
  z164 := Tryd.sizeOf251
  v164 := Tryd.zeroValue251
theorem Tryd.br_extra : Builder.Extra Tryd.prog Tryd.br_ren where
  sizeBuilder := by kernel_rfl
  liesBuilder := by kernel_rfl
  t5 := Tryd.underlying5
  a5 := Tryd.isAgg5
  z5 := Tryd.sizeOf5
  v5 := Tryd.zeroValue5
  infoByte := by kernel_rfl
  cellsByte := by kernel_rfl
  sizeByte := by kernel_rfl
  neB5 := by decide

theorem write_rune (B b : Nat) (bs : List Value) (r : Int) (hr0 : 0 ≤ r) (hr1 : r ≤ 127) (w : World) (h : Lib.IsBuilderF ( /- t -/ 83) ( /- t -/ 5) B b bs w) (hlen : bs.length + 4 ≤ 140737488355328) (hBw : B ≤ w.heap.size) :
    Calls Tryd.prog 105 #[.pointer (some ⟨b, 0, none⟩), .int .i32 r] w fun e w' => e = .returned (.tuple #[.int .i64 1, .nilIface]) ∧ (Lib.BuilderAtF ( /- t -/ 83) ( /- t -/ 5) B b (.pointer (some ⟨b, 0, none⟩)) (bs ++ [.int .u8 r]) w' ∧ Below B w w' ∧ Lib.OthersKept ( /- t -/ 5) (some b) w w') := by
  have e : Lib.runeCells r = [.int .u8 r] := by
    unfold Lib.runeCells
    rw [Lib.encodeRuneZ_one hr0 hr1]
    rfl
  have := Any.Builder_WriteRune_k Tryd.br_lays168 Tryd.br_extra B b bs r (by omega) (by omega) w h hlen hBw
  rw [e] at this
  exact this
end Go.Proofs.YtfppglfajbmapaaDoor

/- rolesIn of the program: which of the three letters lie in a text. -/
namespace Go.Proofs.YtfppglfajbmapaaDoor
open Go.RowKit

/-- The letters A, B, C for which p holds. -/
def setL (p : UInt8 → Bool) : List UInt8 := [65, 66, 67].filter p
def setS (p : UInt8 → Bool) : ByteArray := ⟨(setL p).toArray⟩
theorem setL_congr {p q : UInt8 → Bool} (h : ∀ c, c = 65 ∨ c = 66 ∨ c = 67 → p c = q c) : setL p = setL q := by
  unfold setL
  simp only [List.filter_cons, List.filter_nil]
  rw [h 65 (Or.inl rfl), h 66 (Or.inr (Or.inl rfl)), h 67 (Or.inr (Or.inr rfl))]
theorem setS_congr {p q : UInt8 → Bool} (h : ∀ c, c = 65 ∨ c = 66 ∨ c = 67 → p c = q c) : setS p = setS q := by
  unfold setS
  rw [setL_congr h]
/-- The first k of them. -/
def setK (p : UInt8 → Bool) (k : Nat) : List UInt8 := ([65, 66, 67].take k).filter p

theorem setK_three (p : UInt8 → Bool) : setK p 3 = setL p := rfl
theorem setK_len (p : UInt8 → Bool) (k : Nat) : (setK p k).length ≤ 3 := by
  unfold setK
  refine Nat.le_trans (List.length_filter_le _ _) ?_
  rw [List.length_take]
  exact Nat.min_le_right _ _
theorem setK_yes {p : UInt8 → Bool} {k : Nat} {c : UInt8} (hc : [65, 66, 67][k]? = some c) (h : p c = true) : setK p (k + 1) = setK p k ++ [c] := by
  unfold setK
  rw [List.take_add_one, hc, List.filter_append]
  simp [h]
theorem setK_no {p : UInt8 → Bool} {k : Nat} {c : UInt8} (hc : [65, 66, 67][k]? = some c) (h : p c = false) : setK p (k + 1) = setK p k := by
  unfold setK
  rw [List.take_add_one, hc, List.filter_append]
  simp [h]

def hasB (s : ByteArray) (c : UInt8) : Bool := s.data.toList.contains c
theorem contains_rune (s : ByteArray) (r : Int) (c : UInt8) (hc : r = c.toNat) (h : c.toNat < 128) (w : World) :
    Calls Tryd.prog 104 #[.string s, .int .i32 r] w fun e w' => e = .returned (.bool (hasB s c)) ∧ w' = w := by
  have h0 := Tryd.strings_ContainsRune_ascii s r w (by omega) (by omega)
  have e : r.toNat.toUInt8 = c := by
    rw [hc, Int.toNat_natCast]
    exact UInt8.ofNat_toNat
  rw [e, ← Lib.contains_iff_indexByte] at h0
  exact h0
def bABC : ByteArray := ⟨#[65, 66, 67]⟩

set_option maxHeartbeats 1600000 in
set_option maxRecDepth 100000 in
/-- rolesIn of the program. -/
theorem rolesIn_calls (s : ByteArray) (w : World) :
    Calls Tryd.prog 63 #[.string s] w fun e w' => e = .returned (.string (setS (hasB s))) ∧ Below w.heap.size w w' := by
  have hI0 : Lib.IsBuilderF ( /- t -/ 83) ( /- t -/ 5) w.heap.size w.heap.size (Lib.byteCells (setK (hasB s) 0)) ((w.alloc (.cells #[.pointer none, .slice none 0 0] ( /- t -/ 83))).iter bABC 0) :=
    bu_below (Lib.IsBuilderF.of (Lib.fresh_isBuilder _ _ _)) (alloc_below _ _)
  have hk0 : ((w.alloc (.cells #[.pointer none, .slice none 0 0] ( /- t -/ 83))).iter bABC 0).heap[w.heap.size + 1]? = some (.stringIter bABC 0) := by
    have h5 := World.iter_heap (w.alloc (.cells #[.pointer none, .slice none 0 0] ( /- t -/ 83))) bABC 0
    simpa using h5
  have hb0 : Below w.heap.size w ((w.alloc (.cells #[.pointer none, .slice none 0 0] ( /- t -/ 83))).iter bABC 0) := ((Below.refl _ w).alloc (Nat.le_refl _) _).alloc (by simp) _
  have HI0 := hide hI0
  have HK0 := hide hk0
  have HB0 := hide hb0
  clear hI0 hk0 hb0
  go_enter Tryd.func63, Tryd.ntmps63
  go_wp2_with fail
  go_loopw [5] (fun _ wr => ∃ pos : Nat, pos ≤ 3 ∧ wr.heap[w.heap.size + 1]? = some (.stringIter bABC pos) ∧ Lib.IsBuilderF ( /- t -/ 83) ( /- t -/ 5) w.heap.size w.heap.size (Lib.byteCells (setK (hasB s) pos)) wr ∧ Below w.heap.size w wr)
    (fun _ wr => 3 - wr.iterPos (w.heap.size + 1))
  case atStart => exact ⟨0, Nat.zero_le _, HK0.out, HI0.out, HB0.out⟩
  case round =>
    obtain ⟨pos, hps, hk, hI, hnx⟩ := hrel
    have hsz : bABC.size = 3 := rfl
    by_cases hp : pos < 3
    · have hp' : pos < bABC.size := hp
      have hc : (bABC[pos]'hp').toNat = 65 + pos := by
        rcases (show pos = 0 ∨ pos = 1 ∨ pos = 2 by omega) with rfl | rfl | rfl <;> rfl
      have hg : [65, 66, 67][pos]? = some (bABC[pos]'hp') := by
        rcases (show pos = 0 ∨ pos = 1 ∨ pos = 2 by omega) with rfl | rfl | rfl <;> rfl
      have hnext : ∀ ty, (Instr.next (.pointer (some ⟨w.heap.size + 1, 0, none⟩)) true ty).run Tryd.prog wr = _ := fun ty => Lib.run_next_ascii_at wr (w.heap.size + 1) bABC pos ty hk hp' (by omega)
      have hI1 := hI.iterAt hk (pos + 1)
      have hk1 := Lib.iterAt_heap wr (w.heap.size + 1) bABC pos (pos + 1) hk
      have hnx1 : Below w.heap.size w (wr.iterAt (w.heap.size + 1) bABC (pos + 1)) := Lib.below_iterAt hnx (by omega) bABC (pos + 1)
      have hmu : wr.iterPos (w.heap.size + 1) = pos := by simp [World.iterPos, hk]
      generalize wr.iterAt (w.heap.size + 1) bABC (pos + 1) = W1 at hnext hI1 hk1 hnx1
      generalize (bABC[pos]'hp') = c at *
      have hlen : (Lib.byteCells (setK (hasB s) pos)).length ≤ 3 := by rw [Lib.byteCells_length]; exact setK_len _ _
      have HI1 := hide hI1
      have HK1 := hide hk1
      have HNX := hide hnx1
      have HG := hide hg
      have HMU := hide hmu
      have HCC := hide hc
      have hc128 : c.toNat < 128 := by omega
      clear hI1 hk1 hnx1 hg hI hnx hmu hk hc
      cases hh : hasB s c with
      | false =>
        go_wp2_with (first | (go_at_call 104; refine (contains_rune s _ c rfl hc128 _).mono ?_; rintro e w' ⟨rfl, hw'⟩; obtain rfl := hw'.symm) | fail)
        refine ⟨⟨pos + 1, by omega, HK1.out, ?_, HNX.out⟩, ?_⟩
        · rw [setK_no HG.out hh]
          exact HI1.out
        · have hmu2 : W1.iterPos (w.heap.size + 1) = pos + 1 := by
            have h9 := HK1.out
            simp [World.iterPos, h9]
          rw [HMU.out, hmu2]
          omega
      | true =>
        go_wp2_with (first | (go_at_call 104; refine (contains_rune s _ c rfl hc128 _).mono ?_; rintro e w' ⟨rfl, hw'⟩; obtain rfl := hw'.symm) | fail)
        refine (write_rune w.heap.size w.heap.size _ _ (by omega) (by omega) _ HI1.out (by omega) HNX.out.size).mono ?_
        rintro e W2 ⟨rfl, hat, hb2, hkept⟩
        have hk2 := hkept.iter HK1.out (by omega)
        have HAT := hide hat
        have HK2 := hide hk2
        have HB2 := hide hb2
        clear hat hk2 hb2 hkept
        go_wp2_with fail
        refine ⟨⟨pos + 1, by omega, HK2.out, ?_, HNX.out.trans HB2.out⟩, ?_⟩
        · rw [setK_yes HG.out hh]
          have e9 : Lib.byteCells (setK (hasB s) pos ++ [c]) = Lib.byteCells (setK (hasB s) pos) ++ [.int .u8 (c.toNat : Int)] := by
            unfold Lib.byteCells
            rw [List.map_append]
            rfl
          rw [e9]
          exact Or.inr HAT.out
        · have hmu2 : W2.iterPos (w.heap.size + 1) = pos + 1 := by
            have h9 := HK2.out
            simp [World.iterPos, h9]
          rw [HMU.out, hmu2]
          omega
    · have hp' : ¬ pos < bABC.size := hp
      have hnext : ∀ ty, (Instr.next (.pointer (some ⟨w.heap.size + 1, 0, none⟩)) true ty).run Tryd.prog wr = _ := fun ty => Lib.run_next_end_at wr (w.heap.size + 1) bABC pos ty hk hp'
      obtain rfl : pos = 3 := by omega
      have HI := hide hI
      have HNX := hide hnx
      clear hI hnx hk
      go_wp2_with fail
      refine (Tryd.Builder_String_any_k w.heap.size w.heap.size (setL (hasB s)) wr HI.out HNX.out.size).mono ?_
      rintro e W2 ⟨rfl, -, hb2, -⟩
      go_wp2_with fail
      go_ret
      exact ⟨rfl, HNX.out.trans hb2⟩
end Go.Proofs.YtfppglfajbmapaaDoor

/- l1Insert of the model: a letter put into an ascending string. -/
namespace Go.Proofs.YtfppglfajbmapaaDoor
open Go.RowKit

/-- A letter put into an ascending list. -/
def insB (c : UInt8) : List UInt8 → List UInt8
  | [] => [c]
  | x :: xs => if x.toNat < c.toNat then x :: insB c xs else if x = c then x :: xs else c :: x :: xs

theorem one_letter (c : UInt8) (b : Nat) (W : World) (h : W.cell? ⟨b, 0, none⟩ = some (.int .u8 c.toNat)) :
    (convert ( /- t -/ 22) ( /- t -/ 9) (.slice (some ⟨b, 0, none⟩) 1 1)).run Tryd.prog W = .ok (.string ⟨#[c]⟩) W :=
  run_convert_bytes_back (P := Tryd.prog) W ( /- t -/ 22) ( /- t -/ 9) ( /- t -/ 5) ⟨b, 0, none⟩ 1 [c] (by kernel_rfl) (by kernel_rfl) (by kernel_rfl) (by
    intro j hj
    have : j = 0 := by simpa using hj
    subst this
    exact h)

theorem insB_stop {c : UInt8} {l : List UInt8} {k : Nat} (h : insB c l = l.take k ++ insB c (l.drop k)) (hk : k < l.length) (he : l[k] = c) : insB c l = l := by
  rw [h, List.drop_eq_getElem_cons hk, he]
  have : insB c (c :: l.drop (k + 1)) = c :: l.drop (k + 1) := by simp [insB]
  rw [this]
  conv => lhs; rw [← he]
  rw [← List.drop_eq_getElem_cons hk, List.take_append_drop]
theorem insB_step {c : UInt8} {l : List UInt8} {k : Nat} (h : insB c l = l.take k ++ insB c (l.drop k)) (hk : k < l.length) (hc : l[k].toNat < c.toNat) : insB c l = l.take (k + 1) ++ insB c (l.drop (k + 1)) := by
  rw [h, List.drop_eq_getElem_cons hk]
  have : insB c (l[k] :: l.drop (k + 1)) = l[k] :: insB c (l.drop (k + 1)) := by simp [insB, hc]
  rw [this, List.take_succ_eq_append_getElem hk, List.append_assoc]
  rfl
theorem insB_put {c : UInt8} {l : List UInt8} {k : Nat} (h : insB c l = l.take k ++ insB c (l.drop k)) (hk : ∀ h : k < l.length, ¬ l[k].toNat < c.toNat ∧ ¬ l[k] = c) : insB c l = l.take k ++ c :: l.drop k := by
  rw [h]
  by_cases hl : k < l.length
  · rw [List.drop_eq_getElem_cons hl]
    simp [insB, (hk hl).1, (hk hl).2]
  · rw [List.drop_eq_nil_of_le (by omega)]
    rfl

/-- Into the letters for which p holds. -/
theorem insB_setL (p : UInt8 → Bool) (c : UInt8) (hc : c = 65 ∨ c = 66 ∨ c = 67) : insB c (setL p) = setL (fun x => x == c || p x) := by
  unfold setL
  simp only [List.filter_cons, List.filter_nil]
  generalize p 65 = a
  generalize p 66 = b
  generalize p 67 = d
  rcases hc with rfl | rfl | rfl <;> cases a <;> cases b <;> cases d <;> rfl

theorem str_eta (s : ByteArray) : s = ⟨s.data.toList.toArray⟩ := by
  cases s
  simp
theorem str_put (s : ByteArray) (c : UInt8) (k : Nat) (h : k ≤ s.size) : s.extract 0 k ++ ⟨#[c]⟩ ++ s.extract k s.size = ⟨(s.data.toList.take k ++ c :: s.data.toList.drop k).toArray⟩ := by
  have hl : s.data.toList.length = s.size := (Lib.size_eq s).symm
  apply ByteArray.ext
  apply Array.ext'
  simp only [ByteArray.data_append, ByteArray.data_extract, Array.toList_append, Array.toList_extract, List.extract_eq_take_drop, List.drop_zero, Nat.sub_zero, List.append_assoc, List.singleton_append]
  rw [List.take_of_length_le (l := List.drop k s.data.toList) (by rw [List.length_drop]; omega)]

set_option maxHeartbeats 1600000 in
set_option maxRecDepth 100000 in
theorem ins_walk (s : ByteArray) (c : UInt8) (hs : s.size ≤ 3) (w : World) :
    Calls Tryd.prog 114 #[.string s, .int .u8 c.toNat] w fun e w' => e = .returned (.string ⟨(insB c s.data.toList).toArray⟩) ∧ Below w.heap.size w w' := by
  have hsl : s.data.toList.length = s.size := (Lib.size_eq s).symm
  go_enter Tryd.func114, Tryd.ntmps114
  go_wp2_with fail
  go_loopw [5] (fun iv wr => ∃ k : Nat, iv = .int .i64 k ∧ k ≤ s.size ∧ insB c s.data.toList = s.data.toList.take k ++ insB c (s.data.toList.drop k) ∧ wr = w) (fun iv _ => s.size - (intOf iv).toNat)
  case atStart => exact ⟨0, rfl, Nat.zero_le _, rfl, rfl⟩
  case round =>
    obtain ⟨k, rfl, hk, hins, rfl⟩ := hrel
    have HI := hide hins
    clear hins
    have hconv : (convert ( /- t -/ 22) ( /- t -/ 9) (.slice (some ⟨wr.heap.size, 0, none⟩) 1 1)).run Tryd.prog ((wr.alloc (.cells #[.int .u8 c.toNat] ( /- t -/ 5))).drew) = .ok (.string ⟨#[c]⟩) ((wr.alloc (.cells #[.int .u8 c.toNat] ( /- t -/ 5))).drew) :=
      one_letter c wr.heap.size _ (by
        show (wr.alloc (.cells #[.int .u8 c.toNat] ( /- t -/ 5))).cell? ⟨wr.heap.size, 0, none⟩ = _
        rw [cell_of_heap (cs := #[.int .u8 c.toNat]) (t := ( /- t -/ 5)) (z := (0, 0)) (by show (wr.heap.push _)[wr.heap.size]? = _; simp)]
        rfl)
    by_cases hkl : k < s.size
    · have hbs : k < s.data.toList.length := by omega
      have hget : s.data.toList[k] = s[k] := by rw [Array.getElem_toList]; rfl
      by_cases hlt : s[k].toNat < c.toNat
      · have HL := hide hlt
        have HST := hide (insB_step HI.out hbs (by rw [hget]; exact hlt))
        clear hconv hget
        go_wp2_with fail
        refine ⟨⟨k + 1, by go_num, by omega, HST.out, trivial⟩, by simp [intOf]; omega⟩
      · by_cases heq : s[k] = c
        · have HST := hide (insB_stop HI.out hbs (by rw [hget]; exact heq))
          have hbe : ((s[k].toNat : Int) == (c.toNat : Int)) = true := by rw [heq]; exact beq_self_eq_true _
          clear hconv hget
          go_wp2_with fail
          go_ret
          refine ⟨?_, Below.refl _ _⟩
          rw [HST.out]
          exact congrArg (fun x => Ending.returned (Value.string x)) (str_eta s)
        · have HST := hide (insB_put HI.out (fun h => ⟨by rw [hget]; exact hlt, by rw [hget]; exact heq⟩))
          have hbe : ((s[k].toNat : Int) == (c.toNat : Int)) = false := beq_eq_false_iff_ne.2 (fun h => heq (UInt8.toNat_inj.1 (by omega)))
          clear hget
          go_wp2_with fail
          go_region
          go_wp2_with fail
          go_ret
          refine ⟨?_, (alloc_below _ _).drew⟩
          rw [HST.out]
          exact congrArg (fun x => Ending.returned (Value.string x)) (str_put s c k hk)
    · have HST := hide (insB_put HI.out (fun h => absurd h (by omega)))
      go_wp2_with fail
      go_region
      go_wp2_with fail
      go_ret
      refine ⟨?_, (alloc_below _ _).drew⟩
      rw [HST.out]
      exact congrArg (fun x => Ending.returned (Value.string x)) (str_put s c k hk)

theorem setS_size (p : UInt8 → Bool) : (setS p).size ≤ 3 := by
  have h : (setS p).size = (setL p).length := by simp [setS, ByteArray.size]
  rw [h]
  exact setK_len p 3
/-- l1Insert of the model, at the letters for which p holds. -/
theorem ins_set (p : UInt8 → Bool) (c : UInt8) (hc : c = 65 ∨ c = 66 ∨ c = 67) (w : World) :
    Calls Tryd.prog 114 #[.string (setS p), .int .u8 c.toNat] w fun e w' => e = .returned (.string (setS (fun x => x == c || p x))) ∧ Below w.heap.size w w' := by
  have h := ins_walk (setS p) c (setS_size p) w
  have e : (⟨(insB c (setS p).data.toList).toArray⟩ : ByteArray) = setS (fun x => x == c || p x) := by
    have e1 : (setS p).data.toList = setL p := rfl
    rw [e1, insB_setL p c hc]
    rfl
  rw [e] at h
  exact h
theorem hasB_iff (s : ByteArray) (c : UInt8) : hasB s c = true ↔ inB c s := by
  unfold hasB inB
  exact List.contains_iff_mem
/-- A role is one of three letters. -/
theorem role_one {s : ByteArray} (h : roleB s = true) : ∃ hs : 0 < s.size, (s[0] = 65 ∨ s[0] = 66 ∨ s[0] = 67) ∧ ∀ c, hasB s c = (c == s[0]) := by
  obtain ⟨x, rfl, hx⟩ : ∃ x : UInt8, s = ⟨#[x]⟩ ∧ (x = 65 ∨ x = 66 ∨ x = 67) := by
    simp only [roleB, Bool.or_eq_true, beq_iff_eq, ByteArray.toList_eq] at h
    rcases h with (h | h) | h
    · exact ⟨65, by rw [str_eta s, h], Or.inl rfl⟩
    · exact ⟨66, by rw [str_eta s, h], Or.inr (Or.inl rfl)⟩
    · exact ⟨67, by rw [str_eta s, h], Or.inr (Or.inr rfl)⟩
  refine ⟨Nat.zero_lt_one, hx, fun c => ?_⟩
  show [x].contains c = (c == x)
  simp only [List.contains, List.elem]
  cases c == x <;> rfl
end Go.Proofs.YtfppglfajbmapaaDoor

/- l2Peers of the model. -/
namespace Go.Proofs.YtfppglfajbmapaaDoor.Lo
open Go.RowKit

/-- Some node of the list names the letter. -/
def namFb (c : UInt8) : F → Bool
  | .nil => false
  | .cons _ k fr _ kids rest => ((k == 2 || k == 3) && (hasB fr c)) || namFb c kids || namFb c rest
def namNb (c : UInt8) (k : Int) (fr : ByteArray) (kids : F) : Bool := ((k == 2 || k == 3) && (hasB fr c)) || namFb c kids
theorem namFb_iff (c : UInt8) : ∀ f : F, namFb c f = true ↔ namF c f := by
  intro f
  induction f with
  | nil => simp [namFb, namF]
  | cons lab k fr ix kids rest ihk ihr =>
    simp only [namFb, namF, Bool.or_eq_true, Bool.and_eq_true, beq_iff_eq, ihk, ihr, hasB_iff, or_assoc]
theorem namNb_iff (c : UInt8) (k : Int) (fr : ByteArray) (kids : F) : namNb c k fr kids = true ↔ namN c k fr kids := by
  simp only [namNb, namN, Bool.or_eq_true, Bool.and_eq_true, beq_iff_eq, namFb_iff, hasB_iff]

theorem kids_valid {k : Int} {fr : ByteArray} {ix : Int} {kids : F} {b u d : Int} (hu : 0 ≤ u) (h : vldN k fr ix kids b u d = true) : ∃ b' u' d', 0 ≤ u' ∧ vldF kids b' u' d' = true := by
  unfold vldN at h
  obtain ⟨-, hsh, hk⟩ := node_kinds hu h
  rcases hk with rfl | ⟨-, -, -, rfl⟩ | ⟨-, h3⟩ | ⟨-, h3⟩
  · have := (shape_end hsh).2.2
    subst this
    exact ⟨0, 0, 0, Int.le_refl _, rfl⟩
  · exact ⟨0, 0, 0, Int.le_refl _, rfl⟩
  · exact ⟨_, _, _, by omega, h3⟩
  · exact ⟨_, _, _, Int.le_refl _, h3⟩

def RoAt (n : Nat) : Prop := ∀ (w : World) (k ix b u d : Int) (fr : ByteArray) (sv : Value) (kids : F) (p : UInt8 → Bool), kids.sz < n → Sl w sv kids → 0 ≤ u → vldN k fr ix kids b u d = true →
  Calls Tryd.prog 69 #[.string (setS p), .agg #[.int .i64 k, .string fr, .int .i64 ix, sv]] w fun e w' => e = .returned (.string (setS (fun c => p c || namNb c k fr kids))) ∧ Below w.heap.size w w'

set_option maxHeartbeats 1600000 in
set_option maxRecDepth 100000 in
theorem ro_none (n : Nat) (ih : RoAt n) (w : World) (k ix b u d : Int) (fr : ByteArray) (sv : Value) (kids : F) (p : UInt8 → Bool) (hn : kids.sz < n + 1) (hs : Sl w sv kids) (hu : 0 ≤ u) (hv : vldN k fr ix kids b u d = true) (hk2 : (k == 2 || k == 3) = false) :
    Calls Tryd.prog 69 #[.string (setS p), .agg #[.int .i64 k, .string fr, .int .i64 ix, sv]] w fun e w' => e = .returned (.string (setS (fun c => p c || namNb c k fr kids))) ∧ Below w.heap.size w w' := by
  obtain ⟨b', u', d', hu0, hvk⟩ := kids_valid hu hv
  have HV := hide hvk
  obtain ⟨a, cap, rfl, hlen, hat⟩ := hs.at
  unfold maxLen at hlen
  have HA := hide hat
  have HN := hide hn
  have hb0 := alloc_below w (.cells #[.int .i64 k, .string fr, .int .i64 ix, .slice a kids.len cap] ( /- t -/ 35))
  have hbx := alloc_last w #[.int .i64 k, .string fr, .int .i64 ix, .slice a kids.len cap] ( /- t -/ 35)
  have HB0 := hide hb0
  clear hs hat hn hv hvk hb0
  go_enter Tryd.func69, Tryd.ntmps69
  go_wp2_with (first | (go_at_call 100; refine (act_calls k false hk2 _).mono ?_; rintro e w' ⟨rfl, rfl⟩) | fail)
  generalize (w.alloc (.cells #[.int .i64 k, .string fr, .int .i64 ix, .slice a kids.len cap] ( /- t -/ 35))) = W at *
  have c4 : W.cell? ⟨w.heap.size, 3, none⟩ = some (.slice a kids.len cap) := cell_of_heap (o := 3) hbx
  have hWl : w.heap.size < W.heap.size := World.block_lt_of_cell? _ _ c4
  clear hbx
  go_loopw [0, 5] (fun sv iv wr => ∃ (g : F) (j : Nat) (q : UInt8 → Bool), j + g.len = kids.len ∧ sv = .string (setS q) ∧ iv = .int .i64 j ∧ g.sz ≤ kids.sz ∧ At w a j g ∧ vldF g b' u' d' = true ∧ (∀ c, (q c || namFb c g) = (p c || namFb c kids)) ∧ wr.cell? ⟨w.heap.size, 3, none⟩ = some (.slice a kids.len cap) ∧ Below w.heap.size w wr) (fun _ iv _ => kids.len - (intOf iv).toNat)
  case atStart => exact ⟨kids, 0, _, by omega, rfl, rfl, Nat.le_refl _, HA.out, HV.out, fun _ => rfl, c4, HB0.out⟩
  case round =>
    obtain ⟨g, j, q, hk, rfl, rfl, h5, hg, hv, hq, hc4, hbw⟩ := hrel
    have HQ := hide hq
    have HB := hide hbw
    have HG := hide hg
    have HK := hide hk
    have H5 := hide h5
    clear hq h5
    cases g with
    | nil =>
      have hge : kids.len ≤ j := by simp only [F.len] at hk; omega
      clear hk hg hv hbw
      go_wp2_with fail
      go_ret
      refine ⟨?_, HB.out⟩
      refine congrArg (fun x => Ending.returned (Value.string x)) (setS_congr fun c _ => ?_)
      have := HQ.out c
      simp only [namFb, Bool.or_false] at this
      rw [this]
      simp only [namNb]
      rw [hk2, Bool.false_and, Bool.false_or]
    | cons lab kd fr' ix' kids' rest =>
      have hlt : j < kids.len := by simp only [F.len] at hk; omega
      obtain ⟨bb, o, rfl, _, _, _, _, q0, q1, q2, q3, ⟨sv', q4, hsv⟩, _⟩ := (hg.still (Still.of_below hbw)).head
      have HS := hide hsv
      simp only [vldF, Bool.and_eq_true] at hv
      have HV2 := hide hv
      clear hk hg hv hsv
      go_wp2_with fail
      refine (ih wr kd ix' b' u' d' fr' sv' kids' q ?_ HS.out hu0 HV2.out.1).mono ?_
      · have h1 := HN.out
        have h2 := H5.out
        simp only [F.sz] at h2
        omega
      rintro e w3 ⟨rfl, hb5⟩
      have HB2 := hide (hbw.trans (hb5.mono hbw.size))
      have hc4' := (hb5.cell (p := ⟨w.heap.size, 3, none⟩) (World.block_lt_of_cell? _ _ hc4)).trans hc4
      clear hb5
      go_wp2_with fail
      refine ⟨⟨rest, j + 1, _, ?_, rfl, by go_num, ?_, HG.out.tail, HV2.out.2, fun c => ?_, hc4', HB2.out⟩, by simp [intOf]; omega⟩
      · have := HK.out
        simp only [F.len] at this
        omega
      · have := H5.out
        simp only [F.sz] at this
        omega
      · have h9 := HQ.out c
        simp only [namFb] at h9
        rw [← h9]
        simp only [namNb, Bool.or_assoc]

set_option maxHeartbeats 1600000 in
set_option maxRecDepth 100000 in
theorem ro_own (n : Nat) (ih : RoAt n) (w : World) (k ix b u d : Int) (fr : ByteArray) (sv : Value) (kids : F) (p : UInt8 → Bool) (hn : kids.sz < n + 1) (hs : Sl w sv kids) (hu : 0 ≤ u) (hv : vldN k fr ix kids b u d = true) (hk2 : (k == 2 || k == 3) = true) :
    Calls Tryd.prog 69 #[.string (setS p), .agg #[.int .i64 k, .string fr, .int .i64 ix, sv]] w fun e w' => e = .returned (.string (setS (fun c => p c || namNb c k fr kids))) ∧ Below w.heap.size w w' := by
  obtain ⟨b', u', d', hu0, hvk⟩ := kids_valid hu hv
  have HV := hide hvk
  obtain ⟨a, cap, rfl, hlen, hat⟩ := hs.at
  unfold maxLen at hlen
  have HA := hide hat
  have HN := hide hn
  have hkk : k = 2 ∨ k = 3 := by simpa using hk2
  have hsh := (node_kinds hu (by unfold vldN at hv; exact hv)).2.1
  obtain ⟨e1, -, -⟩ := shape_act hkk hsh
  obtain ⟨hf1, hf2, hf3⟩ := role_one e1
  have hb0 := alloc_below w (.cells #[.int .i64 k, .string fr, .int .i64 ix, .slice a kids.len cap] ( /- t -/ 35))
  have hbx := alloc_last w #[.int .i64 k, .string fr, .int .i64 ix, .slice a kids.len cap] ( /- t -/ 35)
  have HB0 := hide hb0
  have HF2 := hide hf2
  have HF3 := hide hf3
  clear hs hat hn hv hvk hb0 hf2 hf3 hsh e1 hkk
  obtain ⟨s0, hs0⟩ : ∃ s0, s0 = setS p := ⟨_, rfl⟩
  obtain ⟨s1, hs1⟩ : ∃ s1, s1 = setS (fun x => x == fr[0] || p x) := ⟨_, rfl⟩
  have i1 : ∀ W : World, Calls Tryd.prog 114 #[.string s0, .int .u8 (fr[0].toNat : Int)] W fun e w' => e = .returned (.string s1) ∧ Below W.heap.size W w' := fun W => by rw [hs0, hs1]; exact ins_set p fr[0] HF2.out W
  rw [← hs0]
  have I1 := hide i1
  have HS2 := hide hs1
  clear i1 hs0 hs1
  go_enter Tryd.func69, Tryd.ntmps69
  go_wp2_with (first | (go_at_call 100; refine (act_calls k true hk2 _).mono ?_; rintro e w' ⟨rfl, rfl⟩) | fail)
  generalize (w.alloc (.cells #[.int .i64 k, .string fr, .int .i64 ix, .slice a kids.len cap] ( /- t -/ 35))) = W at *
  have c1 : W.cell? ⟨w.heap.size, 1, none⟩ = some (.string fr) := cell_of_heap (o := 1) hbx
  have c4 : W.cell? ⟨w.heap.size, 3, none⟩ = some (.slice a kids.len cap) := cell_of_heap (o := 3) hbx
  have hWl : w.heap.size < W.heap.size := World.block_lt_of_cell? _ _ c4
  clear hbx
  refine (I1.out _).mono ?_
  rintro e w6 ⟨rfl, hb6⟩
  have hbS := hb6
  have d4 : w6.cell? ⟨w.heap.size, 3, none⟩ = some (.slice a kids.len cap) := (hbS.cell (p := ⟨w.heap.size, 3, none⟩) hWl).trans c4
  have HBS := hide (HB0.out.trans (hbS.mono HB0.out.size))
  clear hbS hb6 c1 c4
  go_wp2_with fail
  go_loopw [0, 5] (fun sv iv wr => ∃ (g : F) (j : Nat) (q : UInt8 → Bool), j + g.len = kids.len ∧ sv = .string (setS q) ∧ iv = .int .i64 j ∧ g.sz ≤ kids.sz ∧ At w a j g ∧ vldF g b' u' d' = true ∧ (∀ c, (q c || namFb c g) = ((c == fr[0] || p c) || namFb c kids)) ∧ wr.cell? ⟨w.heap.size, 3, none⟩ = some (.slice a kids.len cap) ∧ Below w.heap.size w wr) (fun _ iv _ => kids.len - (intOf iv).toNat)
  case atStart => exact ⟨kids, 0, fun x => x == fr[0] || p x, by omega, by rw [HS2.out], rfl, Nat.le_refl _, HA.out, HV.out, fun _ => rfl, d4, HBS.out⟩
  case round =>
    obtain ⟨g, j, q, hk, rfl, rfl, h5, hg, hv, hq, hc4, hbw⟩ := hrel
    have HQ := hide hq
    have HB := hide hbw
    have HG := hide hg
    have HK := hide hk
    have H5 := hide h5
    clear hq h5
    cases g with
    | nil =>
      have hge : kids.len ≤ j := by simp only [F.len] at hk; omega
      clear hk hg hv hbw
      go_wp2_with fail
      go_ret
      refine ⟨?_, HB.out⟩
      refine congrArg (fun x => Ending.returned (Value.string x)) (setS_congr fun c _ => ?_)
      have := HQ.out c
      simp only [namFb, Bool.or_false] at this
      rw [this]
      simp only [namNb]
      rw [hk2, HF3.out c]
      cases p c <;> cases (c == fr[0]) <;> simp
    | cons lab kd fr' ix' kids' rest =>
      have hlt : j < kids.len := by simp only [F.len] at hk; omega
      obtain ⟨bb, o, rfl, _, _, _, _, q0, q1, q2, q3, ⟨sv', q4, hsv⟩, _⟩ := (hg.still (Still.of_below hbw)).head
      have HS := hide hsv
      simp only [vldF, Bool.and_eq_true] at hv
      have HV2 := hide hv
      clear hk hg hv hsv
      go_wp2_with fail
      refine (ih wr kd ix' b' u' d' fr' sv' kids' q ?_ HS.out hu0 HV2.out.1).mono ?_
      · have h1 := HN.out
        have h2 := H5.out
        simp only [F.sz] at h2
        omega
      rintro e w3 ⟨rfl, hb5⟩
      have HB2 := hide (hbw.trans (hb5.mono hbw.size))
      have hc4' := (hb5.cell (p := ⟨w.heap.size, 3, none⟩) (World.block_lt_of_cell? _ _ hc4)).trans hc4
      clear hb5
      go_wp2_with fail
      refine ⟨⟨rest, j + 1, _, ?_, rfl, by go_num, ?_, HG.out.tail, HV2.out.2, fun c => ?_, hc4', HB2.out⟩, by simp [intOf]; omega⟩
      · have := HK.out
        simp only [F.len] at this
        omega
      · have := H5.out
        simp only [F.sz] at this
        omega
      · have h9 := HQ.out c
        simp only [namFb] at h9
        rw [← h9]
        simp only [namNb, Bool.or_assoc]

theorem ro_all : ∀ n, RoAt n := by
  intro n
  induction n with
  | zero => intro w k ix b u d fr sv kids p hn; omega
  | succ n ih =>
    intro w k ix b u d fr sv kids p hn hs hu hv
    cases h2 : (k == 2 || k == 3) with
    | true => exact ro_own n ih w k ix b u d fr sv kids p hn hs hu hv h2
    | false => exact ro_none n ih w k ix b u d fr sv kids p hn hs hu hv h2

/-- The peers of a local type. -/
def peersN (k : Int) (fr : ByteArray) (ix : Int) (kids : F) : ByteArray := if okN k fr ix kids then setS (fun c => namNb c k fr kids) else ⟨#[]⟩
theorem peersN_text (k : Int) (fr : ByteArray) (ix : Int) (kids : F) : setS (hasB (textN k fr ix kids)) = peersN k fr ix kids := by
  unfold peersN textN
  cases h : okN k fr ix kids with
  | false => rfl
  | true =>
    rw [if_pos rfl, if_pos rfl]
    unfold okN at h
    simp only [Bool.and_eq_true] at h
    refine setS_congr fun c hc => ?_
    have h1 : 65 ≤ c.toNat ∧ c.toNat ≤ 67 := by rcases hc with rfl | rfl | rfl <;> decide
    rw [Bool.eq_iff_iff, hasB_iff, namNb_iff]
    exact txN_letters h1.1 h1.2 (by omega) (by omega) (by omega) h.1

set_option maxHeartbeats 400000 in
set_option maxRecDepth 100000 in
/-- LocalPeers of the model. -/
theorem specPeers (w : World) (k ix : Int) (fr : ByteArray) (sv : Value) (kids : F) (hs : Sl w sv kids) (hbig : kids.sz ≤ 1048576) :
    Calls Tryd.prog 29 #[.agg #[.int .i64 k, .string fr, .int .i64 ix, sv]] w fun e w' => e = .returned (.string (peersN k fr ix kids)) ∧ Below w.heap.size w w' := by
  have HS := hide hs
  clear hs
  go_enter Tryd.func29, Tryd.ntmps29
  go_wp2_with fail
  refine (specValid _ k ix fr sv kids (HS.out.still (Still.of_below (alloc_below _ _))) hbig).mono ?_
  rintro e w1 ⟨rfl, hb⟩
  have BX := (Box4.now w (.int .i64 k) (.string fr) (.int .i64 ix) sv ( /- t -/ 35)).below hb
  obtain ⟨c0, c1, c2, c3⟩ := BX.cells
  have hlt := BX.lt
  have hb2 := alloc_then hb
  clear BX hb
  cases hv : okN k fr ix kids with
  | false =>
    go_wp2_with fail
    go_ret
    refine ⟨?_, hb2⟩
    unfold peersN
    rw [hv]
    rfl
  | true =>
    have HV := hide hv
    have h2 := hv
    unfold okN at h2
    simp only [Bool.and_eq_true, decide_eq_true_eq] at h2
    have H2 := hide h2
    clear hv h2
    go_wp2_with fail
    refine (ro_all (kids.sz + 1) w1 k ix 0 0 40 fr sv kids (fun _ => false) (Nat.lt_succ_self _) (HS.out.still (Still.of_below hb2)) (by omega) H2.out.1).mono ?_
    rintro e w2 ⟨rfl, hb3⟩
    have hb4 := hb2.trans (hb3.mono hb2.size)
    clear hb3
    go_wp2_with fail
    go_ret
    refine ⟨?_, hb4⟩
    unfold peersN
    rw [HV.out, if_pos rfl]
    exact congrArg (fun x => Ending.returned (Value.string x)) (setS_congr fun c _ => Bool.false_or _)
end Go.Proofs.YtfppglfajbmapaaDoor.Lo

/- LocalPeers of the program. -/
namespace Go.Proofs.YtfppglfajbmapaaDoor.Lo
open Go.RowKit

set_option maxHeartbeats 400000 in
set_option maxRecDepth 100000 in
/-- LocalPeers of the program. -/
theorem implPeers (w : World) (k ix : Int) (fr : ByteArray) (sv : Value) (kids : F) (hs : Sl w sv kids) :
    Calls Tryd.prog 23 #[.agg #[.int .i64 k, .string fr, .int .i64 ix, sv]] w fun e w' => e = .returned (.string (peersN k fr ix kids)) ∧ Below w.heap.size w w' := by
  have HS := hide hs
  clear hs
  go_enter Tryd.func23, Tryd.ntmps23
  go_wp2_with fail
  refine (implFormat _ k ix fr sv kids (HS.out.still (Still.of_below (alloc_below _ _)))).mono ?_
  rintro e w1 ⟨rfl, hb⟩
  have hb2 := alloc_then hb
  have ht := peersN_text k fr ix kids
  have HT := hide ht
  clear hb ht
  generalize textN k fr ix kids = t at *
  go_wp2_with fail
  refine (rolesIn_calls t _).mono ?_
  rintro e w2 ⟨rfl, hb3⟩
  rw [HT.out]
  have hb4 := hb2.trans (hb3.mono hb2.size)
  clear hb3
  go_wp2_with fail
  go_ret
  exact ⟨rfl, hb4⟩
end Go.Proofs.YtfppglfajbmapaaDoor.Lo
