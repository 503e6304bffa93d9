/- l1Random of the model: its leaves. -/
import Derived.Test.YtgcefippeokmcaaDr
namespace Go.Proofs.Ytgcefippeokmcaa
open Go.RowKit

set_option maxHeartbeats 1000000 in
set_option maxRecDepth 100000 in
/-- No level is left. -/
theorem rand_zero (w : World) (rb : Nat) (cv : Value) (l : List Nat) (p S : Nat) (h : Rd w rb cv l p) (hp : p + 9 ≤ 1000000) (b u d : Int) (hd : d < 1) (hu : 0 ≤ u) (hb : b ≤ 3) :
    Calls Try.prog 55 #[.pointer (some ⟨rb, 0, none⟩), .int .i64 b, .int .i64 u, .int .i64 d] w (DrP smN w rb cv l p 9 S) := by
  have HS := hide (St.new h ( /- t -/ 25))
  clear h
  go_enter Try.func55, Try.ntmps55
  go_upto_region 1 with fail
  generalize w.alloc (.cells #[.int .i64 0, .string ⟨#[]⟩, .string ⟨#[]⟩, .int .i64 0, .slice none 0 0] ( /- t -/ 25)) = W at *
  by_cases hbu : u < b
  case neg =>
    obtain ⟨x0, x1, x2, x3, x4⟩ := HS.out.box.cells
    have fx := HS.out.box.frozen
    have lx := HS.out.box.lt
    go_wp2_with fail
    refine bodyPost_ret (v := .agg #[.int .i64 1, .string ⟨#[]⟩, .string ⟨#[]⟩, .int .i64 (0), .slice none 0 0]) (by simp [results, Try.results55, go_sem, *]) rfl ?_
    exact HS.out.leaf (by omega) 1 0 (by decide) (by omega) (by omega) _ _ _ _ _
  case pos =>
    go_wp2_with fail
    refine (pick_calls _ rb cv l _ HS.out.rd (by omega) 2 (by omega)).mono ?_
    rintro e wA ⟨va, rfl, hva, hask⟩
    have HA := hide (HS.out.ask hask)
    clear hask
    by_cases hv0 : va = 0
    case neg =>
      have hv1 : ((va : Int) == 0) = false := beq_eq_false_iff_ne.2 (by omega)
      have hv2 : ¬ (va : Int) = 0 := by omega
      obtain ⟨x0, x1, x2, x3, x4⟩ := HA.out.box.cells
      have fx := HA.out.box.frozen
      have lx := HA.out.box.lt
      go_wp2_with fail
      refine bodyPost_ret (v := .agg #[.int .i64 1, .string ⟨#[]⟩, .string ⟨#[]⟩, .int .i64 (0), .slice none 0 0]) (by simp [results, Try.results55, go_sem, *]) rfl ?_
      exact HA.out.leaf (by omega) 1 0 (by decide) (by omega) (by omega) _ _ _ _ _
    case pos =>
      subst hv0
      go_wp2_with fail
      refine (pick_calls _ rb cv l _ HA.out.rd (by omega) (b - u) (by omega)).mono ?_
      rintro e wB ⟨vb, rfl, hvb, hask⟩
      have HB := hide (HA.out.ask hask)
      clear hask
      have hix : u + (vb : Int) ≤ 9 := by omega
      obtain ⟨x0, x1, x2, x3, x4⟩ := HB.out.box.cells
      have fx := HB.out.box.frozen
      have lx := HB.out.box.lt
      go_wp2_with fail
      refine bodyPost_ret (v := .agg #[.int .i64 4, .string ⟨#[]⟩, .string ⟨#[]⟩, .int .i64 (u + (vb : Int)), .slice none 0 0]) (by simp [results, Try.results55, go_sem, *]) rfl ?_
      exact HB.out.leaf (by omega) 4 (u + (vb : Int)) (by decide) (by omega) (by omega) _ _ _ _ _
end Go.Proofs.Ytgcefippeokmcaa
