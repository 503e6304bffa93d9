/- ParseLocal answers, for every text, as the model does, and its answer owns its memory: the law FnExactParseLocal returns true. No condition. -/
import Derived.Test.YtbonmdkfmgahbaaRows
import Derived.Test.YtbonmdkfmgahbaaPw
import Derived.Test.YtbonmdkfmgahbaaLaw
import Derived.ChangeArms
namespace Go.Proofs.Ytbonmdkfmgahbaa
open Go.ChangeShapes Go.WideShapes Go.ChangeAt Go.RowKit
open Go.ChangeMaps (open_string)

set_option maxRecDepth 100000 in
theorem plocal_lifted (os : Os) (started : os.Started) (H : Type) (enc : TypeId × Value → H) :
    ReturnsInHanded {} Try.checked os 3 .any (Rows.fnExactParseLocalSpec.pre6 enc Try.prog Try.f3 Rows.fnExactParseLocalRow.domain false) (Rows.fnExactParseLocalSpec.post enc Try.prog Try.f3 false true false false) := by
  refine returnsInHanded_of_change (C := Try.checked) Try.own started (by kernel_rfl) Try.func3
    (ChangeSpec.witness6 (enc := enc) (C := Try.checked) false ⟨#[], #[.string ⟨#[]⟩], []⟩ 8 (by kernel_rfl) (by kernel_rfl) (by kernel_rfl) (by kernel_rfl)) ?_
  intro W base args ds gs before hval0 hW hcnd _
  have hval : ∀ (j : Nat) t v, Try.f3.params[j]? = some t → args[j]? = some v → Value.okWide Try.prog W .any base t v := hval0
  have hW' := hW
  obtain ⟨p, q, hA0, hV, rfl, hfz, hnd⟩ := hW
  have hA : DataW.TrodAll enc Try.prog W 0 (fun _ => true) true Try.f3.params.toList args.toList ds p := hA0
  rw [Try.params3] at hA hval
  obtain ⟨v0, d0, rfl, rfl, h0⟩ := trodAll_one hA
  obtain ⟨s, rfl, rfl, rfl, hs⟩ := open_string Try.underlying9 (hval 0 ( /- t -/ 9) v0 rfl rfl) h0
  refine (Lo.Ne.pl_walk W s).mono fun e W' ⟨he, hb⟩ => ?_
  subst he
  exact ⟨_, rfl, law_post Try.laidOut (by kernel_rfl) (by kernel_rfl) Try.underlying4 rfl (by cases gs with | nil => rfl | cons => exact hV.elim) hW' hb⟩

/-- ParseLocal answers, for every text, as the model does, and its answer owns its memory: the law FnExactParseLocal returns true. -/
theorem plocal_holds : Rows.FnExactParseLocalSaid :=
  OpenClaim.holds_of_wide 3 Try.f3 rfl rfl rfl rfl rfl rfl rfl ⟨rfl, rfl, rfl, rfl, rfl⟩ rfl rfl rfl rfl rfl (by kernel_rfl) Try.func3 (by kernel_rfl)
    (of_decide_eq_true (by kernel_rfl)) (by unfold Func.isWrapper; first | (rw [if_pos (by decide +kernel)]; kernel_rfl) | (rw [if_neg (by decide +kernel)]; exact ⟨rfl, rfl⟩))
    (fun os started H enc _ => plocal_lifted os started H enc)

#print axioms plocal_holds
end Go.Proofs.Ytbonmdkfmgahbaa
