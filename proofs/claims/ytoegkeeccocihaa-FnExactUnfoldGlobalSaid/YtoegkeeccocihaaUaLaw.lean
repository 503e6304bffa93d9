/- UnfoldGlobal answers, for every Global, as the model does, leaves its argument as it was and hands out memory of its own: the law FnExactUnfoldGlobal returns true. No condition. -/
import Derived.Test.YtoegkeeccocihaaRows
import Derived.Test.YtoegkeeccocihaaUb
import Derived.Test.YtoegkeeccocihaaOpen
namespace Go.Proofs.Ytoegkeeccocihaa
open Go.ChangeShapes Go.WideShapes Go.ChangeAt Go.RowKit

/-- FnExactUnfoldGlobal returns true. -/
theorem unf_walk (w : World) (g : Nd) (sv : Value) (hs : Sl w sv g.kids) (hf : Fit g) :
    Calls Try.prog 3 #[.agg #[.int .i64 g.k, .string g.fr, .string g.tg, .int .i64 g.ix, sv]] w fun e w' => e = .returned (.bool true) ∧ Below w.heap.size w w' := by
  by_cases h : g.fr.size + (g.tg.size + (g.kids.len + g.kids.wt)) ≤ 1048576
  · exact unf_small w g sv hs hf h
  · exact unf_big w g sv hs hf (by omega)

set_option maxRecDepth 100000 in
theorem unfold_lifted (os : Os) (started : os.Started) (H : Type) (enc : TypeId × Value → H) :
    ReturnsInHanded {} Try.checked os 3 .any (Rows.fnExactUnfoldGlobalSpec.pre6 enc Try.prog Try.f3 Rows.fnExactUnfoldGlobalRow.domain false) (Rows.fnExactUnfoldGlobalSpec.post enc Try.prog Try.f3 false true false false) := by
  refine returnsInHanded_of_change (C := Try.checked) Try.own started (by kernel_rfl) Try.func3
    (ChangeSpec.witness6 (enc := enc) (C := Try.checked) false ⟨#[], #[.agg #[.int .i64 0, .string ⟨#[]⟩, .string ⟨#[]⟩, .int .i64 0, .slice none 0 0]], []⟩ 8 (by kernel_rfl) (by kernel_rfl) (by kernel_rfl) (by kernel_rfl)) ?_
  intro W base args ds gs before hval0 hW hcnd _
  have hval : ∀ (j : Nat) t v, Try.f3.params[j]? = some t → args[j]? = some v → Value.okWide Try.prog W .any base t v := hval0
  have hW' := hW
  obtain ⟨p, q, hA0, hV, rfl, hfz, hnd⟩ := hW
  have hA : DataW.TrodAll enc Try.prog W 0 (fun _ => true) true Try.f3.params.toList args.toList ds p := hA0
  rw [Try.params3] at hA hval
  obtain ⟨v0, d0, rfl, rfl, h0⟩ := trodAll_one hA
  obtain ⟨k, fr, tg, ix, sv, kids, rfl, w1, w2, w3, w4, hs⟩ := open_global (hval 0 ( /- t -/ 24) v0 rfl rfl) h0
  refine (unf_walk W ⟨k, fr, tg, ix, kids⟩ sv hs ⟨w1, w2, w3, w4⟩).mono fun e W' ⟨he, hb⟩ => ?_
  subst he
  exact ⟨_, rfl, law_post Try.laidOut (by kernel_rfl) (by kernel_rfl) Try.underlying4 rfl (by cases gs with | nil => rfl | cons => exact hV.elim) hW' hb⟩

/-- UnfoldGlobal answers, for every Global, as the model does, leaves its argument as it was and hands out memory of its own: the law FnExactUnfoldGlobal returns true. -/
theorem unfold_holds : Rows.FnExactUnfoldGlobalSaid :=
  OpenClaim.holds_of_wide 3 Try.f3 rfl rfl rfl rfl rfl rfl rfl ⟨rfl, rfl, rfl, rfl, rfl⟩ rfl rfl rfl rfl rfl (by kernel_rfl) Try.func3 (by kernel_rfl)
    (of_decide_eq_true (by kernel_rfl)) (by unfold Func.isWrapper; first | (rw [if_pos (by decide +kernel)]; kernel_rfl) | (rw [if_neg (by decide +kernel)]; exact ⟨rfl, rfl⟩))
    (fun os started H enc _ => unfold_lifted os started H enc)

#print axioms unfold_holds
end Go.Proofs.Ytoegkeeccocihaa
