/- StepGlobal stays within the protocol: no new role, and the same before and after unfolding. The law FnGlobalStep returns true for every input; its tied card. No condition. -/
import Derived.Test.YtgcefippeokmcaaDoorCards
import Derived.Test.YtgcefippeokmcaaDoorTie
import Derived.Test.YtgcefippeokmcaaDoorD11
import Derived.Test.YtgcefippeokmcaaDoorH10
import Derived.WalkKit
import Derived.ProofKit
import Derived.OpenShut
import Derived.Deep.DeepHandedRow
import Derived.Lib.LaidTab
namespace Go.Proofs.YtgcefippeokmcaaDoor
open Go.ChangeShapes Go.WideShapes Go.ChangeAt Go.RowKit

/-- The cells of a table of numbers. -/
def gst_llitVal {H : Type} : DataW H → Value
  | .lit (.int k n) => .int k n
  | _ => .nilIface
def gst_ltabCells {H : Type} : DataW H → Array Value
  | .agg l => (l.map gst_llitVal).toArray
  | _ => #[]
def gst_lrelay (cs : Array Value) : Obj → Obj
  | .cells _ t frozen => .cells cs t frozen
  | o => o

/-- A world that holds the three tables: the witness. -/
noncomputable def gst_llaidWorld (os : Os) : World :=
  { World.holding Tryd.prog os ⟨#[], #[], []⟩ with heap := (((World.holding Tryd.prog os ⟨#[], #[], []⟩).heap.modify 1 (gst_lrelay (gst_ltabCells (H := Unit) Rows.laid_internal_strconv_uint64pow10))).modify 2 (gst_lrelay (gst_ltabCells (H := Unit) Rows.laid_math_bits_deBruijn32tab))).modify 3 (gst_lrelay (gst_ltabCells (H := Unit) Rows.laid_math_bits_deBruijn64tab)) }
def gst_zero : Value := .slice none 0 0
theorem gst_llaid_met (os : Os) : laidMet Tryd.prog Rows.fnGlobalStepRow.laid ((gst_llaidWorld os).forCall (fun _ _ => 0) ⟨#[], #[gst_zero], []⟩).memory :=
  laidMet_of_run' 200 (by kernel_rfl) (by kernel_rfl)
/-- One datum was read, and no variable. -/
def gst_loneOf {H : Type} : Option (List (DataW H) × List (DataW H) × List MemPlace) → Bool
  | some ([_], [], _) => true
  | _ => false
theorem gst_loneOf_some {H : Type} {x : Option (List (DataW H) × List (DataW H) × List MemPlace)} (h : gst_loneOf x = true) : ∃ d places, x = some ([d], [], places) := by
  unfold gst_loneOf at h
  split at h
  · exact ⟨_, _, rfl⟩
  · cases h
theorem gst_lreads (os : Os) {H : Type} (enc : TypeId × Value → H) : ∃ d places, DataW.whole enc Tryd.prog ((gst_llaidWorld os).forCall (fun _ _ => 0) ⟨#[], #[gst_zero], []⟩).memory Tryd.f7.params.toList Rows.fnGlobalStepSpec.vars false #[gst_zero].toList 8 = some ([d], [], places) :=
  gst_loneOf_some (by kernel_rfl)

set_option maxRecDepth 100000 in
theorem gst_lifted (os : Os) (started : os.Started) (H : Type) (enc : TypeId × Value → H) (F : Stop.Interp) :
    ReturnsInHanded {} Tryd.checked os 7 .any ((OpenSpec.ofChange Rows.fnGlobalStepSpec).preRow enc Tryd.prog Tryd.f7 Rows.fnGlobalStepRow.domain false Rows.fnGlobalStepRow.laid) (((OpenSpec.ofChange Rows.fnGlobalStepSpec).at F).post enc Tryd.prog Tryd.f7 false true false false) := by
  obtain ⟨d, places, hx⟩ := gst_lreads os enc
  refine returnsInHanded_of_row (C := Tryd.checked) (s := OpenSpec.ofChange Rows.fnGlobalStepSpec) Tryd.own started (by kernel_rfl) Tryd.func7
    (witness_row_at (enc := enc) (C := Tryd.checked) false (gst_llaidWorld os) #[gst_zero] rfl (by kernel_rfl) (by kernel_rfl) (by kernel_rfl)
      (OpenSpec.preRow_of_cond 8 hx (by kernel_rfl) (fun k hk => by cases hk) (by kernel_rfl) (gst_llaid_met os))) ?_
  intro W base args ds gs before hval0 hW hcnd _ _ hL _ _
  have hval : ∀ (j : Nat) t v, Tryd.f7.params[j]? = some t → args[j]? = some v → Value.okWide Tryd.prog W .any base t v := hval0
  have hW' := hW
  obtain ⟨p, q, hA0, hV, rfl, hfz, hnd⟩ := hW
  have hA : DataW.TrodAll enc Tryd.prog W 0 (fun _ => true) true Tryd.f7.params.toList args.toList ds p := hA0
  rw [Tryd.params7] at hA hval
  obtain ⟨v0, d0, rfl, rfl, h0⟩ := trodAll_one hA
  obtain ⟨l, hs⟩ := open_bytes Tryd.underlying22 (okWide_slice Tryd.underlying22 (hval 0 ( /- t -/ 22) v0 rfl rfl)) h0
  refine (gst_walk W v0 l hs).mono fun e W' ⟨he, hb⟩ => ?_
  subst he
  exact ⟨_, rfl, law_post (s := Rows.fnGlobalStepSpec) Tryd.laidOut (by kernel_rfl) (by kernel_rfl) Tryd.underlying4 rfl (by cases gs with | nil => rfl | cons => exact hV.elim) hW' hb⟩

theorem gst_said : Rows.FnGlobalStepSaid :=
  OpenClaim.holds_of_cond 7 Tryd.f7 rfl rfl rfl rfl rfl rfl rfl ⟨rfl, rfl, rfl, rfl, rfl⟩ rfl rfl rfl rfl rfl (by kernel_rfl) Tryd.func7 (by kernel_rfl)
    (of_decide_eq_true (by kernel_rfl)) (by unfold Func.isWrapper; first | (rw [if_pos (by decide +kernel)]; kernel_rfl) | (rw [if_neg (by decide +kernel)]; exact ⟨rfl, rfl⟩))
    (fun os started H enc _ F => by rw [OpenClaim.pre_eq_preRow]; exact gst_lifted os started H enc F)

/-- No parameter wants a stand-in; the program's own looks are on. -/
theorem gst_plain (f : FuncId) (fn : Func) (hf : Tryd.pinned.checked.prog.funcNamed "loop.example/sessiontypes/laws.FnGlobalStep" = some f) (hfn : Tryd.pinned.checked.prog.funcs[f]? = some fn) :
    true = Tryd.pinned.checked.prog.looks [] ∧ ∀ (j : Nat) t, fn.params[j]? = some t → Tryd.pinned.checked.prog.wantsStandIn t = false := by
  obtain rfl : f = 7 := Option.some.inj ((show Tryd.prog.funcNamed "loop.example/sessiontypes/laws.FnGlobalStep" = some 7 by kernel_rfl).symm.trans hf) |>.symm
  obtain rfl : fn = Tryd.f7 := (Option.some.inj (Tryd.func7.symm.trans hfn)).symm
  refine ⟨by kernel_rfl, fun j t ht => ?_⟩
  rw [Tryd.params7] at ht
  obtain rfl : t = ( /- t -/ 22) := by simpa using Array.mem_of_getElem? ht
  exact (show Tryd.prog.wantsStandIn ( /- t -/ 22) = false by kernel_rfl)

/-- The card. -/
theorem gst_holds : Rows.FnGlobalStepCardSaid :=
  Claim7.holds_tied_plain_at .later [] _ _ _ _ gst_said (fun _ h => by cases h) (by kernel_rfl) (fun _ h => by cases h) fnGlobalStep_row_tie rfl ⟨rfl, rfl⟩ (by kernel_rfl) rfl gst_plain (by kernel_rfl)

#print axioms gst_holds
end Go.Proofs.YtgcefippeokmcaaDoor
