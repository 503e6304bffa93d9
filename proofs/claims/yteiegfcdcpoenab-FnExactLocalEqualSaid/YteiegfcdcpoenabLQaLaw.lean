/- LocalEqual answers, for every two Locals, as the model does and leaves its arguments as they were: the law FnExactLocalEqual returns true. No condition. -/
import Derived.Test.YteiegfcdcpoenabRows
import Derived.Test.YteiegfcdcpoenabLQb
import Derived.Test.YteiegfcdcpoenabLOpen
namespace Go.Proofs.Yteiegfcdcpoenab
open Go.ChangeShapes Go.WideShapes Go.ChangeAt Go.RowKit

set_option maxRecDepth 100000 in
theorem lsame_lifted (os : Os) (started : os.Started) (H : Type) (enc : TypeId × Value → H) :
    ReturnsInHanded {} Try.checked os 7 .any (Rows.fnExactLocalEqualSpec.pre6 enc Try.prog Try.f7 Rows.fnExactLocalEqualRow.domain false) (Rows.fnExactLocalEqualSpec.post enc Try.prog Try.f7 false true false false) := by
  refine returnsInHanded_of_change (C := Try.checked) Try.own started (by kernel_rfl) Try.func7
    (ChangeSpec.witness6 (enc := enc) (C := Try.checked) false ⟨#[], #[.agg #[.int .i64 0, .string ⟨#[]⟩, .int .i64 0, .slice none 0 0], .agg #[.int .i64 0, .string ⟨#[]⟩, .int .i64 0, .slice none 0 0]], []⟩ 8 (by kernel_rfl) (by kernel_rfl) (by kernel_rfl) (by kernel_rfl)) ?_
  intro W base args ds gs before hval0 hW hcnd _
  have hval : ∀ (j : Nat) t v, Try.f7.params[j]? = some t → args[j]? = some v → Value.okWide Try.prog W .any base t v := hval0
  have hW' := hW
  obtain ⟨p, q, hA0, hV, rfl, hfz, hnd⟩ := hW
  have hA : DataW.TrodAll enc Try.prog W 0 (fun _ => true) true Try.f7.params.toList args.toList ds p := hA0
  rw [Try.params7] at hA hval
  obtain ⟨v0, v1, d0, d1, p0, p1, rfl, rfl, rfl, h0, h1⟩ := trodAll_two hA
  obtain ⟨k, fr, ix, sv, kids, rfl, w1, -, -, hs⟩ := Lo.open_local (hval 0 ( /- t -/ 41) v0 rfl rfl) h0
  obtain ⟨k', fr', ix', sv', kids', rfl, w1', -, -, hs'⟩ := Lo.open_local (hval 1 ( /- t -/ 41) v1 rfl rfl) h1
  refine (Lo.geq_walk W k ix k' ix' fr fr' sv sv' kids kids' hs hs' w1 w1').mono fun e W' ⟨he, hb⟩ => ?_
  subst he
  exact ⟨_, rfl, law_post Try.laidOut (by kernel_rfl) (by kernel_rfl) Try.underlying4 rfl (by cases gs with | nil => rfl | cons => exact hV.elim) hW' hb⟩

/-- LocalEqual answers, for every two Locals, as the model does and leaves its arguments as they were: the law FnExactLocalEqual returns true. -/
theorem lsame_holds : Rows.FnExactLocalEqualSaid :=
  OpenClaim.holds_of_wide 7 Try.f7 rfl rfl rfl rfl rfl rfl rfl ⟨rfl, rfl, rfl, rfl, rfl⟩ rfl rfl rfl rfl rfl (by kernel_rfl) Try.func7 (by kernel_rfl)
    (of_decide_eq_true (by kernel_rfl)) (by unfold Func.isWrapper; first | (rw [if_pos (by decide +kernel)]; kernel_rfl) | (rw [if_neg (by decide +kernel)]; exact ⟨rfl, rfl⟩))
    (fun os started H enc _ => lsame_lifted os started H enc)

#print axioms lsame_holds
end Go.Proofs.Yteiegfcdcpoenab
