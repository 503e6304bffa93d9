/- NetworkEqual answers, for every two Networks, as the model does and leaves its arguments as they were: the law FnExactNetworkEqual returns true. No condition. -/
import Derived.Test.YtodhgpjcklhboaaRows
import Derived.Test.YtodhgpjcklhboaaNw
import Derived.Test.YtodhgpjcklhboaaOg
namespace Go.Proofs.Ytodhgpjcklhboaa
open Go.ChangeShapes Go.WideShapes Go.ChangeAt Go.RowKit

set_option maxRecDepth 100000 in
theorem netsame_lifted (os : Os) (started : os.Started) (H : Type) (enc : TypeId × Value → H) :
    ReturnsInHanded {} Try.checked os 5 .any (Rows.fnExactNetworkEqualSpec.pre6 enc Try.prog Try.f5 Rows.fnExactNetworkEqualRow.domain false) (Rows.fnExactNetworkEqualSpec.post enc Try.prog Try.f5 false true false false) := by
  refine returnsInHanded_of_change (C := Try.checked) Try.own started (by kernel_rfl) Try.func5
    (ChangeSpec.witness6 (enc := enc) (C := Try.checked) false ⟨#[], #[.agg #[.slice none 0 0, .slice none 0 0], .agg #[.slice none 0 0, .slice none 0 0]], []⟩ 8 (by kernel_rfl) (by kernel_rfl) (by kernel_rfl) (by kernel_rfl)) ?_
  intro W base args ds gs before hval0 hW hcnd _
  have hval : ∀ (j : Nat) t v, Try.f5.params[j]? = some t → args[j]? = some v → Value.okWide Try.prog W .any base t v := hval0
  have hW' := hW
  obtain ⟨p, q, hA0, hV, rfl, hfz, hnd⟩ := hW
  have hA : DataW.TrodAll enc Try.prog W 0 (fun _ => true) true Try.f5.params.toList args.toList ds p := hA0
  rw [Try.params5] at hA hval
  obtain ⟨v0, v1, d0, d1, p0, p1, rfl, rfl, rfl, h0, h1⟩ := trodAll_two hA
  obtain ⟨lv, qv, l, qs, rfl, hl, hq⟩ := Lo.Ne.open_network (hval 0 ( /- t -/ 40) v0 rfl rfl) h0
  obtain ⟨lv', qv', l', qs', rfl, hl', hq'⟩ := Lo.Ne.open_network (hval 1 ( /- t -/ 40) v1 rfl rfl) h1
  refine (Lo.Ne.neq_walk W lv qv lv' qv' l l' qs qs' hl hq hl' hq').mono fun e W' ⟨he, hb⟩ => ?_
  subst he
  exact ⟨_, rfl, law_post Try.laidOut (by kernel_rfl) (by kernel_rfl) Try.underlying4 rfl (by cases gs with | nil => rfl | cons => exact hV.elim) hW' hb⟩

/-- NetworkEqual answers, for every two Networks, as the model does and leaves its arguments as they were: the law FnExactNetworkEqual returns true. -/
theorem netsame_holds : Rows.FnExactNetworkEqualSaid :=
  OpenClaim.holds_of_wide 5 Try.f5 rfl rfl rfl rfl rfl rfl rfl ⟨rfl, rfl, rfl, rfl, rfl⟩ rfl rfl rfl rfl rfl (by kernel_rfl) Try.func5 (by kernel_rfl)
    (of_decide_eq_true (by kernel_rfl)) (by unfold Func.isWrapper; first | (rw [if_pos (by decide +kernel)]; kernel_rfl) | (rw [if_neg (by decide +kernel)]; exact ⟨rfl, rfl⟩))
    (fun os started H enc _ => netsame_lifted os started H enc)

#print axioms netsame_holds
end Go.Proofs.Ytodhgpjcklhboaa
