/- LocalValid answers, for every Local, as the model does and leaves its argument as it was: the law FnExactLocalValid returns true. No condition. -/
import Derived.Test.YteiegfcdcpoenabRows
import Derived.Test.YteiegfcdcpoenabLVa
import Derived.Test.YteiegfcdcpoenabLOpen
namespace Go.Proofs.Yteiegfcdcpoenab
open Go.ChangeShapes Go.WideShapes Go.ChangeAt Go.RowKit

set_option maxRecDepth 100000 in
theorem lvalid_lifted (os : Os) (started : os.Started) (H : Type) (enc : TypeId × Value → H) :
    ReturnsInHanded {} Try.checked os 6 .any (Rows.fnExactLocalValidSpec.pre6 enc Try.prog Try.f6 Rows.fnExactLocalValidRow.domain false) (Rows.fnExactLocalValidSpec.post enc Try.prog Try.f6 false true false false) := by
  refine returnsInHanded_of_change (C := Try.checked) Try.own started (by kernel_rfl) Try.func6
    (ChangeSpec.witness6 (enc := enc) (C := Try.checked) false ⟨#[], #[.agg #[.int .i64 0, .string ⟨#[]⟩, .int .i64 0, .slice none 0 0]], []⟩ 8 (by kernel_rfl) (by kernel_rfl) (by kernel_rfl) (by kernel_rfl)) ?_
  intro W base args ds gs before hval0 hW hcnd _
  have hval : ∀ (j : Nat) t v, Try.f6.params[j]? = some t → args[j]? = some v → Value.okWide Try.prog W .any base t v := hval0
  have hW' := hW
  obtain ⟨p, q, hA0, hV, rfl, hfz, hnd⟩ := hW
  have hA : DataW.TrodAll enc Try.prog W 0 (fun _ => true) true Try.f6.params.toList args.toList ds p := hA0
  rw [Try.params6] at hA hval
  obtain ⟨v0, d0, rfl, rfl, h0⟩ := trodAll_one hA
  obtain ⟨k, fr, ix, sv, kids, rfl, w1, -, -, hs⟩ := Lo.open_local (hval 0 ( /- t -/ 41) v0 rfl rfl) h0
  refine (Lo.valid_walk W k ix fr sv kids hs w1).mono fun e W' ⟨he, hb⟩ => ?_
  subst he
  exact ⟨_, rfl, law_post Try.laidOut (by kernel_rfl) (by kernel_rfl) Try.underlying4 rfl (by cases gs with | nil => rfl | cons => exact hV.elim) hW' hb⟩

/-- LocalValid answers, for every Local, as the model does and leaves its argument as it was: the law FnExactLocalValid returns true. -/
theorem lvalid_holds : Rows.FnExactLocalValidSaid :=
  OpenClaim.holds_of_wide 6 Try.f6 rfl rfl rfl rfl rfl rfl rfl ⟨rfl, rfl, rfl, rfl, rfl⟩ rfl rfl rfl rfl rfl (by kernel_rfl) Try.func6 (by kernel_rfl)
    (of_decide_eq_true (by kernel_rfl)) (by unfold Func.isWrapper; first | (rw [if_pos (by decide +kernel)]; kernel_rfl) | (rw [if_neg (by decide +kernel)]; exact ⟨rfl, rfl⟩))
    (fun os started H enc _ => lvalid_lifted os started H enc)

#print axioms lvalid_holds
end Go.Proofs.Yteiegfcdcpoenab
