/- GlobalEqual answers, for every two Globals, as the model does and leaves its arguments as they were: the law FnExactGlobalEqual returns true. No condition. -/
import Derived.Test.YteiegfcdcpoenaaRows
import Derived.Test.YteiegfcdcpoenaaQb
import Derived.Test.YteiegfcdcpoenaaOpen
namespace Go.Proofs.Yteiegfcdcpoenaa
open Go.ChangeShapes Go.WideShapes Go.ChangeAt Go.RowKit

set_option maxRecDepth 100000 in
theorem same_lifted (os : Os) (started : os.Started) (H : Type) (enc : TypeId × Value → H) :
    ReturnsInHanded {} Try.checked os 12 .any (Rows.fnExactGlobalEqualSpec.pre6 enc Try.prog Try.f12 Rows.fnExactGlobalEqualRow.domain false) (Rows.fnExactGlobalEqualSpec.post enc Try.prog Try.f12 false true false false) := by
  refine returnsInHanded_of_change (C := Try.checked) Try.own started (by kernel_rfl) Try.func12
    (ChangeSpec.witness6 (enc := enc) (C := Try.checked) false ⟨#[], #[.agg #[.int .i64 0, .string ⟨#[]⟩, .string ⟨#[]⟩, .int .i64 0, .slice none 0 0], .agg #[.int .i64 0, .string ⟨#[]⟩, .string ⟨#[]⟩, .int .i64 0, .slice none 0 0]], []⟩ 8 (by kernel_rfl) (by kernel_rfl) (by kernel_rfl) (by kernel_rfl)) ?_
  intro W base args ds gs before hval0 hW hcnd _
  have hval : ∀ (j : Nat) t v, Try.f12.params[j]? = some t → args[j]? = some v → Value.okWide Try.prog W .any base t v := hval0
  have hW' := hW
  obtain ⟨p, q, hA0, hV, rfl, hfz, hnd⟩ := hW
  have hA : DataW.TrodAll enc Try.prog W 0 (fun _ => true) true Try.f12.params.toList args.toList ds p := hA0
  rw [Try.params12] at hA hval
  obtain ⟨v0, v1, d0, d1, p0, p1, rfl, rfl, rfl, h0, h1⟩ := trodAll_two hA
  obtain ⟨k, fr, tg, ix, sv, kids, rfl, w1, w2, w3, w4, hs⟩ := open_global (hval 0 ( /- t -/ 41) v0 rfl rfl) h0
  obtain ⟨k', fr', tg', ix', sv', kids', rfl, w1', w2', w3', w4', hs'⟩ := open_global (hval 1 ( /- t -/ 41) v1 rfl rfl) h1
  refine (geq_walk W k ix k' ix' fr tg fr' tg' sv sv' kids kids' hs hs' w1 w2 w1' w2').mono fun e W' ⟨he, hb⟩ => ?_
  subst he
  exact ⟨_, rfl, law_post Try.laidOut (by kernel_rfl) (by kernel_rfl) Try.underlying4 rfl (by cases gs with | nil => rfl | cons => exact hV.elim) hW' hb⟩

/-- GlobalEqual answers, for every two Globals, as the model does and leaves its arguments as they were: the law FnExactGlobalEqual returns true. -/
theorem same_holds : Rows.FnExactGlobalEqualSaid :=
  OpenClaim.holds_of_wide 12 Try.f12 rfl rfl rfl rfl rfl rfl rfl ⟨rfl, rfl, rfl, rfl, rfl⟩ rfl rfl rfl rfl rfl (by kernel_rfl) Try.func12 (by kernel_rfl)
    (of_decide_eq_true (by kernel_rfl)) (by unfold Func.isWrapper; first | (rw [if_pos (by decide +kernel)]; kernel_rfl) | (rw [if_neg (by decide +kernel)]; exact ⟨rfl, rfl⟩))
    (fun os started H enc _ => same_lifted os started H enc)

#print axioms same_holds
end Go.Proofs.Yteiegfcdcpoenaa
