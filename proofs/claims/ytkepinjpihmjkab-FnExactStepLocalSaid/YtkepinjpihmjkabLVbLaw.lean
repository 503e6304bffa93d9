/- StepLocal answers, for every Local and every label, as the model does, leaves its arguments as they were and hands out memory of its own: the law FnExactStepLocal returns true. No condition. -/
import Derived.Test.YtkepinjpihmjkabRows
import Derived.Test.YtkepinjpihmjkabLVb
import Derived.Test.YtkepinjpihmjkabLOpen
namespace Go.Proofs.Ytkepinjpihmjkab
open Go.ChangeShapes Go.WideShapes Go.ChangeAt Go.RowKit
open Go.ChangeMaps (open_string)

/-- FnExactStepLocal returns true. -/
theorem lstp_walk (w : World) (g : Lo.Nd) (sv : Value) (s : ByteArray) (hs : Lo.Sl w sv g.kids) (hf : Lo.Fit g) :
    Calls Try.prog 4 #[.agg #[.int .i64 g.k, .string g.fr, .int .i64 g.ix, sv], .string s] w fun e w' => e = .returned (.bool true) ∧ Below w.heap.size w w' := by
  by_cases hl : s.size ≤ 1048576
  · by_cases h : g.fr.size + (g.kids.len + g.kids.wt) ≤ 1048576
    · exact Lo.step_small w g sv s hl hs hf h
    · exact Lo.step_big w g sv s hl hs hf (by omega)
  · exact Lo.step_long w g sv s (by omega)

set_option maxRecDepth 100000 in
theorem lstep_lifted (os : Os) (started : os.Started) (H : Type) (enc : TypeId × Value → H) :
    ReturnsInHanded {} Try.checked os 4 .any (Rows.fnExactStepLocalSpec.pre6 enc Try.prog Try.f4 Rows.fnExactStepLocalRow.domain false) (Rows.fnExactStepLocalSpec.post enc Try.prog Try.f4 false true false false) := by
  refine returnsInHanded_of_change (C := Try.checked) Try.own started (by kernel_rfl) Try.func4
    (ChangeSpec.witness6 (enc := enc) (C := Try.checked) false ⟨#[], #[.agg #[.int .i64 0, .string ⟨#[]⟩, .int .i64 0, .slice none 0 0], .string ⟨#[]⟩], []⟩ 8 (by kernel_rfl) (by kernel_rfl) (by kernel_rfl) (by kernel_rfl)) ?_
  intro W base args ds gs before hval0 hW hcnd _
  have hval : ∀ (j : Nat) t v, Try.f4.params[j]? = some t → args[j]? = some v → Value.okWide Try.prog W .any base t v := hval0
  have hW' := hW
  obtain ⟨p, q, hA0, hV, rfl, hfz, hnd⟩ := hW
  have hA : DataW.TrodAll enc Try.prog W 0 (fun _ => true) true Try.f4.params.toList args.toList ds p := hA0
  rw [Try.params4] at hA hval
  obtain ⟨v0, v1, d0, d1, p0, p1, rfl, rfl, rfl, h0, h1⟩ := trodAll_two hA
  obtain ⟨k, fr, ix, sv, kids, rfl, w1, w2, w3, hs⟩ := Lo.open_local (hval 0 ( /- t -/ 24) v0 rfl rfl) h0
  obtain ⟨s, rfl, rfl, rfl, hs1⟩ := open_string Try.underlying9 (hval 1 ( /- t -/ 9) v1 rfl rfl) h1
  refine (lstp_walk W ⟨k, fr, ix, kids⟩ sv s hs ⟨w1, w2, w3⟩).mono fun e W' ⟨he, hb⟩ => ?_
  subst he
  exact ⟨_, rfl, law_post Try.laidOut (by kernel_rfl) (by kernel_rfl) Try.underlying4 rfl (by cases gs with | nil => rfl | cons => exact hV.elim) hW' hb⟩

/-- StepLocal answers, for every Local and every label, as the model does, leaves its arguments as they were and hands out memory of its own: the law FnExactStepLocal returns true. -/
theorem lstep_holds : Rows.FnExactStepLocalSaid :=
  OpenClaim.holds_of_wide 4 Try.f4 rfl rfl rfl rfl rfl rfl rfl ⟨rfl, rfl, rfl, rfl, rfl⟩ rfl rfl rfl rfl rfl (by kernel_rfl) Try.func4 (by kernel_rfl)
    (of_decide_eq_true (by kernel_rfl)) (by unfold Func.isWrapper; first | (rw [if_pos (by decide +kernel)]; kernel_rfl) | (rw [if_neg (by decide +kernel)]; exact ⟨rfl, rfl⟩))
    (fun os started H enc _ => lstep_lifted os started H enc)

#print axioms lstep_holds
end Go.Proofs.Ytkepinjpihmjkab
