/- RestrictTrace answers, for every trace and every string, as the model does, leaves its arguments as they were, and its answer owns its memory: the law FnExactRestrictTrace returns true. No condition. -/
import Derived.Test.YtbonmdkfmgahbaaRows
import Derived.Test.YtbonmdkfmgahbaaRh
import Derived.Test.YtbonmdkfmgahbaaOa
import Derived.ChangeArms
namespace Go.Proofs.Ytbonmdkfmgahbaa
open Go.ChangeShapes Go.WideShapes Go.ChangeAt Go.RowKit
open Go.ChangeMaps (open_string)

set_option maxRecDepth 100000 in
theorem restr_lifted (os : Os) (started : os.Started) (H : Type) (enc : TypeId × Value → H) :
    ReturnsInHanded {} Try.checked os 4 .any (Rows.fnExactRestrictTraceSpec.pre6 enc Try.prog Try.f4 Rows.fnExactRestrictTraceRow.domain false) (Rows.fnExactRestrictTraceSpec.post enc Try.prog Try.f4 false true false false) := by
  refine returnsInHanded_of_change (C := Try.checked) Try.own started (by kernel_rfl) Try.func4
    (ChangeSpec.witness6 (enc := enc) (C := Try.checked) false ⟨#[], #[.slice none 0 0, .string ⟨#[]⟩], []⟩ 8 (by kernel_rfl) (by kernel_rfl) (by kernel_rfl) (by kernel_rfl)) ?_
  intro W base args ds gs before hval0 hW hcnd _
  have hval : ∀ (j : Nat) t v, Try.f4.params[j]? = some t → args[j]? = some v → Value.okWide Try.prog W .any base t v := hval0
  have hW' := hW
  obtain ⟨p, q, hA0, hV, rfl, hfz, hnd⟩ := hW
  have hA : DataW.TrodAll enc Try.prog W 0 (fun _ => true) true Try.f4.params.toList args.toList ds p := hA0
  rw [Try.params4] at hA hval
  obtain ⟨v0, v1, d0, d1, p0, p1, rfl, rfl, rfl, h0, h1⟩ := trodAll_two hA
  obtain ⟨l, hs⟩ := Lo.Ne.open_actions Try.underlying30 (okWide_slice Try.underlying30 (hval 0 ( /- t -/ 30) v0 rfl rfl)) h0
  obtain ⟨s, rfl, rfl, rfl, hss⟩ := open_string Try.underlying9 (hval 1 ( /- t -/ 9) v1 rfl rfl) h1
  refine (Lo.Ne.rt_walk W v0 l s hs).mono fun e W' ⟨he, hb⟩ => ?_
  subst he
  exact ⟨_, rfl, law_post Try.laidOut (by kernel_rfl) (by kernel_rfl) Try.underlying4 rfl (by cases gs with | nil => rfl | cons => exact hV.elim) hW' hb⟩

/-- RestrictTrace answers, for every trace and every string, as the model does, leaves its arguments as they were, and its answer owns its memory: the law FnExactRestrictTrace returns true. -/
theorem restr_holds : Rows.FnExactRestrictTraceSaid :=
  OpenClaim.holds_of_wide 4 Try.f4 rfl rfl rfl rfl rfl rfl rfl ⟨rfl, rfl, rfl, rfl, rfl⟩ rfl rfl rfl rfl rfl (by kernel_rfl) Try.func4 (by kernel_rfl)
    (of_decide_eq_true (by kernel_rfl)) (by unfold Func.isWrapper; first | (rw [if_pos (by decide +kernel)]; kernel_rfl) | (rw [if_neg (by decide +kernel)]; exact ⟨rfl, rfl⟩))
    (fun os started H enc _ => restr_lifted os started H enc)

#print axioms restr_holds
end Go.Proofs.Ytbonmdkfmgahbaa
