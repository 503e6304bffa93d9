/- toMonitor. -/
import Derived.Test.YtbonmdkfmgahbaaRows
import Derived.Test.YtbonmdkfmgahbaaLTo
namespace Go.Proofs.Ytbonmdkfmgahbaa.Lo.Ne
open Go.RowKit

set_option maxHeartbeats 400000 in
theorem to_mon (kids : F) (w : World) (lab : ByteArray) (k ix : Int) (fr : ByteArray) (sv : Value) (hs : Sl w sv kids) (hw : kids.len + kids.wt ≤ 1048576) :
    Calls Try.prog 20 #[.agg #[.string lab, .int .i64 k, .string fr, .int .i64 ix, sv]] w (MadeB lab k fr ix kids w) := by
  have HS := hide hs
  clear hs
  go_enter Try.func20, Try.ntmps20
  go_wp2_with fail
  refine (to_calls kids _ k ix fr sv (HS.out.still (Still.of_below ?_)) hw).mono ?_
  · exact ((alloc_below _ _).alloc (by simp) _).alloc (by simp; omega) _
  rintro e w1 ⟨u, bs, rfl, how, hge, hnd, hb⟩
  obtain ⟨ua, uc, rfl⟩ := how.val
  have HO := hide how
  have HG := hide hge
  clear how hge
  obtain ⟨hc, hf⟩ := bcell hb
  go_wp2_with fail
  refine bodyPost_ret (v := .agg #[.string lab, .int .i64 k, .string fr, .int .i64 ix, .slice ua kids.len uc]) (by simp [results, Try.results20, go_sem, hc]) rfl ?_
  have hz := hb.size
  simp at hz
  have hB : Below w.heap.size w w1 := ((((alloc_below w _).alloc (by simp) _).alloc (by simp; omega) _).trans (hb.mono (by simp; omega)))
  have q : ∀ b, b ∈ bs → w.heap.size + 3 ≤ b := fun b h => by have := HG.out b h; simp at this; omega
  refine ⟨_, bs, rfl, HO.out.same ?_, fun b h => by have := q b h; omega, hnd, ?_⟩
  · repeat (refine Same.setCell ?_ (fun b h => by have := q b h; simp; omega) _)
    exact Same.refl _ _
  · repeat (refine Below.setCell ?_ (by first | (simp; done) | (simp; omega)) _)
    exact hB

end Go.Proofs.Ytbonmdkfmgahbaa.Lo.Ne
