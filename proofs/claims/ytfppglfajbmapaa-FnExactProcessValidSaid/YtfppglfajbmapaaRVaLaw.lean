/- ProcessValid answers, for every Process, as the model does and leaves its argument as it was: the law FnExactProcessValid returns true. No condition. -/
import Derived.Test.YtfppglfajbmapaaRows
import Derived.Test.YtfppglfajbmapaaRVa
import Derived.Test.YtfppglfajbmapaaROpen
namespace Go.Proofs.Ytfppglfajbmapaa
open Go.ChangeShapes Go.WideShapes Go.ChangeAt Go.RowKit

set_option maxRecDepth 100000 in
theorem pvalid_lifted (os : Os) (started : os.Started) (H : Type) (enc : TypeId × Value → H) :
    ReturnsInHanded {} Try.checked os 6 .any (Rows.fnExactProcessValidSpec.pre6 enc Try.prog Try.f6 Rows.fnExactProcessValidRow.domain false) (Rows.fnExactProcessValidSpec.post enc Try.prog Try.f6 false true false false) := by
  refine returnsInHanded_of_change (C := Try.checked) Try.own started (by kernel_rfl) Try.func6
    (ChangeSpec.witness6 (enc := enc) (C := Try.checked) false ⟨#[], #[.agg #[.int .i64 0, .string ⟨#[]⟩, .string ⟨#[]⟩, .int .i64 0, .slice none 0 0]], []⟩ 8 (by kernel_rfl) (by kernel_rfl) (by kernel_rfl) (by kernel_rfl)) ?_
  intro W base args ds gs before hval0 hW hcnd _
  have hval : ∀ (j : Nat) t v, Try.f6.params[j]? = some t → args[j]? = some v → Value.okWide Try.prog W .any base t v := hval0
  have hW' := hW
  obtain ⟨p, q, hA0, hV, rfl, hfz, hnd⟩ := hW
  have hA : DataW.TrodAll enc Try.prog W 0 (fun _ => true) true Try.f6.params.toList args.toList ds p := hA0
  rw [Try.params6] at hA hval
  obtain ⟨v0, d0, rfl, rfl, h0⟩ := trodAll_one hA
  obtain ⟨k, fr, to, ix, sv, kids, rfl, w1, w2, w3, w4, hs⟩ := Pc.open_process (hval 0 ( /- t -/ 43) v0 rfl rfl) h0
  refine (Pc.valid_walk W k ix fr to sv kids hs w1 w2).mono fun e W' ⟨he, hb⟩ => ?_
  subst he
  exact ⟨_, rfl, law_post Try.laidOut (by kernel_rfl) (by kernel_rfl) Try.underlying4 rfl (by cases gs with | nil => rfl | cons => exact hV.elim) hW' hb⟩

/-- ProcessValid answers, for every Process, as the model does and leaves its argument as it was: the law FnExactProcessValid returns true. -/
theorem pvalid_holds : Rows.FnExactProcessValidSaid :=
  OpenClaim.holds_of_wide 6 Try.f6 rfl rfl rfl rfl rfl rfl rfl ⟨rfl, rfl, rfl, rfl, rfl⟩ rfl rfl rfl rfl rfl (by kernel_rfl) Try.func6 (by kernel_rfl)
    (of_decide_eq_true (by kernel_rfl)) (by unfold Func.isWrapper; first | (rw [if_pos (by decide +kernel)]; kernel_rfl) | (rw [if_neg (by decide +kernel)]; exact ⟨rfl, rfl⟩))
    (fun os started H enc _ => pvalid_lifted os started H enc)

#print axioms pvalid_holds
end Go.Proofs.Ytfppglfajbmapaa
