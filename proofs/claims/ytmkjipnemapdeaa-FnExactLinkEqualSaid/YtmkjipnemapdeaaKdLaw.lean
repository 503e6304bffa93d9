/- LinkEqual answers, for every two Links, as the model does and leaves its arguments as they were: the law FnExactLinkEqual returns true. No condition. -/
import Derived.Test.YtmkjipnemapdeaaRows
import Derived.Test.YtmkjipnemapdeaaKd
import Derived.ChangeArms
namespace Go.Proofs.Ytmkjipnemapdeaa
open Go.ChangeShapes Go.WideShapes Go.ChangeAt Go.RowKit

set_option maxRecDepth 100000 in
theorem lnksame_lifted (os : Os) (started : os.Started) (H : Type) (enc : TypeId × Value → H) :
    ReturnsInHanded {} Try.checked os 3 .any (Rows.fnExactLinkEqualSpec.pre6 enc Try.prog Try.f3 Rows.fnExactLinkEqualRow.domain false) (Rows.fnExactLinkEqualSpec.post enc Try.prog Try.f3 false true false false) := by
  refine returnsInHanded_of_change (C := Try.checked) Try.own started (by kernel_rfl) Try.func3
    (ChangeSpec.witness6 (enc := enc) (C := Try.checked) false ⟨#[], #[.agg #[.int .i64 0, .string ⟨#[]⟩, .int .i64 0, .string ⟨#[]⟩, .slice none 0 0, .slice none 0 0], .agg #[.int .i64 0, .string ⟨#[]⟩, .int .i64 0, .string ⟨#[]⟩, .slice none 0 0, .slice none 0 0]], []⟩ 8 (by kernel_rfl) (by kernel_rfl) (by kernel_rfl) (by kernel_rfl)) ?_
  intro W base args ds gs before hval0 hW hcnd _
  have hval : ∀ (j : Nat) t v, Try.f3.params[j]? = some t → args[j]? = some v → Value.okWide Try.prog W .any base t v := hval0
  have hW' := hW
  obtain ⟨p, q, hA0, hV, rfl, hfz, hnd⟩ := hW
  have hA : DataW.TrodAll enc Try.prog W 0 (fun _ => true) true Try.f3.params.toList args.toList ds p := hA0
  rw [Try.params3] at hA hval
  obtain ⟨v0, v1, d0, d1, p0, p1, rfl, rfl, rfl, h0, h1⟩ := trodAll_two hA
  obtain ⟨m, pv, av, rfl, hp, ha, f1⟩ := Tk.open_link (hval 0 ( /- t -/ 25) v0 rfl rfl) h0
  obtain ⟨m', pv', av', rfl, hp', ha', f2⟩ := Tk.open_link (hval 1 ( /- t -/ 25) v1 rfl rfl) h1
  refine (Tk.leq_walk W pv av pv' av' m m' hp ha hp' ha' f1 f2).mono fun e W' ⟨he, hb⟩ => ?_
  subst he
  exact ⟨_, rfl, law_post Try.laidOut (by kernel_rfl) (by kernel_rfl) Try.underlying4 rfl (by cases gs with | nil => rfl | cons => exact hV.elim) hW' hb⟩

/-- LinkEqual answers, for every two Links, as the model does and leaves its arguments as they were: the law FnExactLinkEqual returns true. -/
theorem lnksame_holds : Rows.FnExactLinkEqualSaid :=
  OpenClaim.holds_of_wide 3 Try.f3 rfl rfl rfl rfl rfl rfl rfl ⟨rfl, rfl, rfl, rfl, rfl⟩ rfl rfl rfl rfl rfl (by kernel_rfl) Try.func3 (by kernel_rfl)
    (of_decide_eq_true (by kernel_rfl)) (by unfold Func.isWrapper; first | (rw [if_pos (by decide +kernel)]; kernel_rfl) | (rw [if_neg (by decide +kernel)]; exact ⟨rfl, rfl⟩))
    (fun os started H enc _ => lnksame_lifted os started H enc)

#print axioms lnksame_holds
end Go.Proofs.Ytmkjipnemapdeaa
