/- A recursion that is not in a scope of the program has no index there. -/
import Derived.Test.YtnlihdcjpeabfaaGreatDoorLIx
namespace Go.Proofs.YtnlihdcjpeabfaaGreatDoor.Lo
open Go.RowKit

set_option maxHeartbeats 800000 in
set_option maxRecDepth 100000 in
/-- index: the recursion is not around. -/
theorem idx_none (w : World) (dp un : Int) (lv : Value) (ps : List Nat) (l : Nat) (hp : Ps w lv ps) (hl : l ∉ ps) (hlen : ps.length ≤ 41) (hblk : ∀ x, x ∈ ps → ∃ cs, Blk w x cs) (hbl : ∃ cs, Blk w l cs) :
    Calls Tryz.prog 86 #[.agg #[.int .i64 dp, lv, .int .i64 un], .pointer (some ⟨l, 0, none⟩)] w fun e w' => e = .returned (.int .i64 (-1)) ∧ Below w.heap.size w w' := by
  rcases hp with ⟨rfl, rfl⟩ | ⟨b, cap, hne, rfl, hcap, hmax, hcell⟩
  · have hb0 := alloc_below w (.cells #[.int .i64 dp, .slice none 0 0, .int .i64 un] ( /- t -/ 112))
    have hbx := Blk.now w #[.int .i64 dp, .slice none 0 0, .int .i64 un] ( /- t -/ 112)
    clear hl hlen hblk hbl
    go_enter Tryz.func86, Tryz.ntmps86
    go_wp2_with fail
    generalize (w.alloc (.cells #[.int .i64 dp, .slice none 0 0, .int .i64 un] ( /- t -/ 112))) = W at *
    have HB := hide hb0
    clear hb0 hbx
    go_loopw [9] (fun iv wr => iv = .int .i64 0 ∧ wr = W) (fun iv _ => 1 - (intOf iv).toNat)
    case atStart => exact ⟨rfl, rfl⟩
    case round =>
      obtain ⟨rfl, rfl⟩ := hrel
      go_wp2_with fail
      go_ret
      exact ⟨rfl, HB.out⟩
  obtain ⟨i0, hi, hz0, hz1, hz2⟩ := info_parts Tryz.info118
  have HI := hide hi
  have HI1 : Hid (i0.size ≠ 0) := by unfold Hid; rw [hz1]; decide
  have HBK := hide hblk
  have HBL := hide hbl
  have HL := hide hl
  clear hi hz0 hz1 hz2 hblk hbl hl
  obtain ⟨n, hn⟩ : ∃ n, n = ps.length := ⟨_, rfl⟩
  have hn41 : n ≤ 41 := by omega
  rw [← hn]
  have HC := hide hcell
  have HN := hide hn
  have hb0 := alloc_below w (.cells #[.int .i64 dp, .slice (some ⟨b, 0, none⟩) n cap, .int .i64 un] ( /- t -/ 112))
  have hbx := Blk.now w #[.int .i64 dp, .slice (some ⟨b, 0, none⟩) n cap, .int .i64 un] ( /- t -/ 112)
  clear hcell hcap hmax hne hlen hn
  go_enter Tryz.func86, Tryz.ntmps86
  go_wp2_with fail
  generalize (w.alloc (.cells #[.int .i64 dp, .slice (some ⟨b, 0, none⟩) n cap, .int .i64 un] ( /- t -/ 112))) = W at *
  have c1 : W.cell? ⟨w.heap.size, 1, none⟩ = some (.slice (some ⟨b, 0, none⟩) n cap) := hbx.cell 1
  have hW : w.heap.size < W.heap.size := hbx.lt
  have HB := hide hb0
  clear hb0 hbx
  go_loopw [9] (fun iv wr => ∃ k : Nat, iv = .int .i64 k ∧ k ≤ n ∧ wr = W) (fun iv _ => n + 1 - (intOf iv).toNat)
  case atStart => exact ⟨0, rfl, Nat.zero_le _, rfl⟩
  case round =>
    obtain ⟨k, rfl, hk, rfl⟩ := hrel
    by_cases hkn : k < n
    · obtain ⟨r, hr⟩ : ∃ r, r + 1 + k = n := ⟨n - 1 - k, by omega⟩
      have hidx : (n : Int) - 1 - k = (r : Nat) := by omega
      have hr0 : (0 : Int) ≤ (r : Nat) := by omega
      have hrn : r < n := by omega
      obtain ⟨x, hx⟩ : ∃ x, ps[r]? = some x := ⟨ps[r]'(by have := HN.out; omega), List.getElem?_eq_getElem (by have := HN.out; omega)⟩
      have z0 : wr.cell? ⟨b, r, none⟩ = some (.pointer (some ⟨x, 0, none⟩)) := (Still.of_below HB.out) _ _ (HC.out _ _ hx)
      have hbw : b < wr.heap.size := World.block_lt_of_cell? _ _ z0
      have hxl : x ≠ l := by
        rintro rfl
        exact HL.out (List.mem_of_getElem? hx)
      obtain ⟨cx, tx, hbx⟩ := HBK.out x (List.mem_of_getElem? hx)
      obtain ⟨cl, tl, hbl⟩ := HBL.out
      have n1 := run_eql_ptr_other (P := Tryz.prog) wr (a := ⟨x, 0, none⟩) (b := ⟨l, 0, none⟩) Tryz.underlying116 HI.out HI1.out (fun e => hxl (by injection e)) ((HB.out.block x (Array.getElem?_eq_some_iff.1 hbx).1).trans hbx) ((HB.out.block l (Array.getElem?_eq_some_iff.1 hbl).1).trans hbl)
      have HKN := hide hkn
      clear hx hr hbx hbl hk
      go_wp2_with fail
      refine ⟨⟨k + 1, by go_num, HKN.out, trivial⟩, ?_⟩
      have h9 := HKN.out
      simp [intOf]
      omega
    · have hge : n ≤ k := by omega
      have hknn : k = n := by omega
      subst hknn
      clear hk hkn
      go_wp2_with fail
      go_ret
      exact ⟨rfl, HB.out⟩
end Go.Proofs.YtnlihdcjpeabfaaGreatDoor.Lo
