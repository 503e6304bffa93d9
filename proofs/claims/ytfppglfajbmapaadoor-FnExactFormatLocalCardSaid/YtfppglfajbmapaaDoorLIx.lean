/- The index of a variable in a scope of the program. -/
import Derived.Test.YtfppglfajbmapaaDoorLLs
import Derived.LaidEqlPtr
namespace Go.Proofs.YtfppglfajbmapaaDoor.Lo
open Go.RowKit

theorem Tryd.info199 : (Tryd.prog.info? ( /- t -/ 199)).map (fun i => (i.zero, i.size, i.bytes)) = some (some (.agg #[.nilIface]), 1, 16) := by kernel_rfl

theorem nodup_get {ps : List Nat} (h : ps.Nodup) {i j x : Nat} (hi : ps[i]? = some x) (hj : ps[j]? = some x) : i = j := by
  obtain ⟨h1, e1⟩ := List.getElem?_eq_some_iff.1 hi
  obtain ⟨h2, e2⟩ := List.getElem?_eq_some_iff.1 hj
  rcases Nat.lt_trichotomy i j with hlt | heq | hlt
  · exact absurd (e1.trans e2.symm) (List.pairwise_iff_getElem.1 h i j h1 h2 hlt)
  · exact heq
  · exact absurd (e2.trans e1.symm) (List.pairwise_iff_getElem.1 h j i h2 h1 hlt)

set_option maxHeartbeats 800000 in
set_option maxRecDepth 100000 in
/-- index: the recursion is around. -/
theorem idx_calls (w : World) (dp un : Int) (lv : Value) (ps : List Nat) (l i j : Nat) (hp : Ps w lv ps) (hnd : ps.Nodup) (hl : ps[j]? = some l) (hj : ps.length = j + 1 + i) (hlen : ps.length ≤ 41) (hblk : ∀ x, x ∈ ps → ∃ cs, Blk w x cs) :
    Calls Tryd.prog 109 #[.agg #[.int .i64 dp, lv, .int .i64 un], .pointer (some ⟨l, 0, none⟩)] w fun e w' => e = .returned (.int .i64 i) ∧ Below w.heap.size w w' := by
  rcases hp with ⟨rfl, -⟩ | ⟨b, cap, hne, rfl, hcap, hmax, hcell⟩
  · exfalso
    have : (0 : Nat) = j + 1 + i := hj
    omega
  obtain ⟨i0, hi, hz0, hz1, hz2⟩ := info_parts Tryd.info199
  have HI := hide hi
  have HI1 : Hid (i0.size ≠ 0) := by unfold Hid; rw [hz1]; decide
  have HBK := hide hblk
  clear hi hz0 hz1 hz2 hblk
  obtain ⟨n, hn⟩ : ∃ n, n = ps.length := ⟨_, rfl⟩
  have hn41 : n ≤ 41 := by omega
  have hin : i < n := by omega
  rw [← hn]
  have HC := hide hcell
  have HND := hide hnd
  have HL := hide hl
  have HJ : Hid (n = j + 1 + i ∧ n = ps.length) := ⟨by omega, hn⟩
  have hb0 := alloc_below w (.cells #[.int .i64 dp, .slice (some ⟨b, 0, none⟩) n cap, .int .i64 un] ( /- t -/ 105))
  have hbx := Blk.now w #[.int .i64 dp, .slice (some ⟨b, 0, none⟩) n cap, .int .i64 un] ( /- t -/ 105)
  clear hcell hnd hl hj hcap hmax hne hlen hn
  go_enter Tryd.func109, Tryd.ntmps109
  go_wp2_with fail
  generalize (w.alloc (.cells #[.int .i64 dp, .slice (some ⟨b, 0, none⟩) n cap, .int .i64 un] ( /- t -/ 105))) = W at *
  have c1 : W.cell? ⟨w.heap.size, 1, none⟩ = some (.slice (some ⟨b, 0, none⟩) n cap) := hbx.cell 1
  have hW : w.heap.size < W.heap.size := hbx.lt
  have HB := hide hb0
  clear hb0 hbx
  go_loopw [9] (fun iv wr => ∃ k : Nat, iv = .int .i64 k ∧ k ≤ i ∧ wr = W) (fun iv _ => i + 1 - (intOf iv).toNat)
  case atStart => exact ⟨0, rfl, Nat.zero_le _, rfl⟩
  case round =>
    obtain ⟨k, rfl, hk, rfl⟩ := hrel
    obtain ⟨r, hr⟩ : ∃ r, r + 1 + k = n := ⟨n - 1 - k, by omega⟩
    have hidx : (n : Int) - 1 - k = (r : Nat) := by omega
    have hkn : k < n := by omega
    have hr0 : (0 : Int) ≤ (r : Nat) := by omega
    have hrn : r < n := by omega
    obtain ⟨x, hx⟩ : ∃ x, ps[r]? = some x := ⟨ps[r]'(by have := HJ.out.2; omega), List.getElem?_eq_getElem (by have := HJ.out.2; omega)⟩
    have z0 : wr.cell? ⟨b, r, none⟩ = some (.pointer (some ⟨x, 0, none⟩)) := (Still.of_below HB.out) _ _ (HC.out _ _ hx)
    have hbw : b < wr.heap.size := World.block_lt_of_cell? _ _ z0
    by_cases hq : k = i
    · have hrj : r = j := by have := HJ.out.1; omega
      have hxl : x = l := by
        have := HL.out
        rw [hrj, this] at hx
        exact (Option.some.inj hx).symm
      have HK := hide hq
      subst hxl
      have n1 := run_eql_ptr_same (P := Tryd.prog) wr ⟨x, 0, none⟩ Tryd.underlying194 HI.out
      clear hx hr hrj hq
      go_wp2_with fail
      go_ret
      exact ⟨by rw [HK.out]; rfl, HB.out⟩
    · have hxl : x ≠ l := by
        rintro rfl
        have := nodup_get HND.out hx HL.out
        have := HJ.out.1
        omega
      have hki : k + 1 ≤ i := by omega
      have HKI := hide hki
      obtain ⟨cx, tx, hbx⟩ := HBK.out x (List.mem_of_getElem? hx)
      obtain ⟨cl, tl, hbl⟩ := HBK.out l (List.mem_of_getElem? HL.out)
      have n1 := run_eql_ptr_other (P := Tryd.prog) wr (a := ⟨x, 0, none⟩) (b := ⟨l, 0, none⟩) Tryd.underlying194 HI.out HI1.out (fun e => hxl (by injection e)) ((HB.out.block x (Array.getElem?_eq_some_iff.1 hbx).1).trans hbx) ((HB.out.block l (Array.getElem?_eq_some_iff.1 hbl).1).trans hbl)
      clear hx hr hq hki hbx hbl
      go_wp2_with fail
      refine ⟨⟨k + 1, by go_num, HKI.out, trivial⟩, ?_⟩
      have h9 := HKI.out
      simp [intOf]
      omega
end Go.Proofs.YtfppglfajbmapaaDoor.Lo
