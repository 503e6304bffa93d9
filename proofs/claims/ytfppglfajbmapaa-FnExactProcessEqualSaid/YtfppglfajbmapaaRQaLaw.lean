/- ProcessEqual answers, for every two Processs, as the model does and leaves its arguments as they were: the law FnExactProcessEqual returns true. No condition. -/
import Derived.Test.YtfppglfajbmapaaRows
import Derived.Test.YtfppglfajbmapaaRQb
import Derived.Test.YtfppglfajbmapaaROpen
namespace Go.Proofs.Ytfppglfajbmapaa
open Go.ChangeShapes Go.WideShapes Go.ChangeAt Go.RowKit

set_option maxRecDepth 100000 in
theorem psame_lifted (os : Os) (started : os.Started) (H : Type) (enc : TypeId × Value → H) :
    ReturnsInHanded {} Try.checked os 7 .any (Rows.fnExactProcessEqualSpec.pre6 enc Try.prog Try.f7 Rows.fnExactProcessEqualRow.domain false) (Rows.fnExactProcessEqualSpec.post enc Try.prog Try.f7 false true false false) := by
  refine returnsInHanded_of_change (C := Try.checked) Try.own started (by kernel_rfl) Try.func7
    (ChangeSpec.witness6 (enc := enc) (C := Try.checked) false ⟨#[], #[.agg #[.int .i64 0, .string ⟨#[]⟩, .string ⟨#[]⟩, .int .i64 0, .slice none 0 0], .agg #[.int .i64 0, .string ⟨#[]⟩, .string ⟨#[]⟩, .int .i64 0, .slice none 0 0]], []⟩ 8 (by kernel_rfl) (by kernel_rfl) (by kernel_rfl) (by kernel_rfl)) ?_
  intro W base args ds gs before hval0 hW hcnd _
  have hval : ∀ (j : Nat) t v, Try.f7.params[j]? = some t → args[j]? = some v → Value.okWide Try.prog W .any base t v := hval0
  have hW' := hW
  obtain ⟨p, q, hA0, hV, rfl, hfz, hnd⟩ := hW
  have hA : DataW.TrodAll enc Try.prog W 0 (fun _ => true) true Try.f7.params.toList args.toList ds p := hA0
  rw [Try.params7] at hA hval
  obtain ⟨v0, v1, d0, d1, p0, p1, rfl, rfl, rfl, h0, h1⟩ := trodAll_two hA
  obtain ⟨k, fr, tg, ix, sv, kids, rfl, w1, w2, w3, w4, hs⟩ := Pc.open_process (hval 0 ( /- t -/ 43) v0 rfl rfl) h0
  obtain ⟨k', fr', tg', ix', sv', kids', rfl, w1', w2', w3', w4', hs'⟩ := Pc.open_process (hval 1 ( /- t -/ 43) v1 rfl rfl) h1
  refine (Pc.geq_walk W k ix k' ix' fr tg fr' tg' sv sv' kids kids' hs hs' w1 w2 w1' w2').mono fun e W' ⟨he, hb⟩ => ?_
  subst he
  exact ⟨_, rfl, law_post Try.laidOut (by kernel_rfl) (by kernel_rfl) Try.underlying4 rfl (by cases gs with | nil => rfl | cons => exact hV.elim) hW' hb⟩

/-- ProcessEqual answers, for every two Processs, as the model does and leaves its arguments as they were: the law FnExactProcessEqual returns true. -/
theorem psame_holds : Rows.FnExactProcessEqualSaid :=
  OpenClaim.holds_of_wide 7 Try.f7 rfl rfl rfl rfl rfl rfl rfl ⟨rfl, rfl, rfl, rfl, rfl⟩ rfl rfl rfl rfl rfl (by kernel_rfl) Try.func7 (by kernel_rfl)
    (of_decide_eq_true (by kernel_rfl)) (by unfold Func.isWrapper; first | (rw [if_pos (by decide +kernel)]; kernel_rfl) | (rw [if_neg (by decide +kernel)]; exact ⟨rfl, rfl⟩))
    (fun os started H enc _ => psame_lifted os started H enc)

#print axioms psame_holds
end Go.Proofs.Ytfppglfajbmapaa
