/- Equality of global types is equality of their texts. The law FnGlobalEqual returns true for every input; its tied card. No condition. -/
import Derived.Test.YtfppglfajbmapaaDoorCards
import Derived.Test.YtfppglfajbmapaaDoorTie
import Derived.Test.YtfppglfajbmapaaDoorQ41
import Derived.WalkKit
import Derived.ProofKit
import Derived.OpenShut
import Derived.Deep.DeepHandedRow
import Derived.Lib.LaidTab
namespace Go.Proofs.YtfppglfajbmapaaDoor
open Go.ChangeShapes Go.WideShapes Go.ChangeAt Go.RowKit

/-- The cells of a table of numbers. -/
def geq2_llitVal {H : Type} : DataW H → Value
  | .lit (.int k n) => .int k n
  | _ => .nilIface
def geq2_ltabCells {H : Type} : DataW H → Array Value
  | .agg l => (l.map geq2_llitVal).toArray
  | _ => #[]
def geq2_lrelay (cs : Array Value) : Obj → Obj
  | .cells _ t frozen => .cells cs t frozen
  | o => o

/-- A world that holds the three tables: the witness. -/
noncomputable def geq2_llaidWorld (os : Os) : World :=
  { World.holding Tryd.prog os ⟨#[], #[], []⟩ with heap := (((World.holding Tryd.prog os ⟨#[], #[], []⟩).heap.modify 1 (geq2_lrelay (geq2_ltabCells (H := Unit) Rows.laid_internal_strconv_uint64pow10))).modify 4 (geq2_lrelay (geq2_ltabCells (H := Unit) Rows.laid_math_bits_deBruijn32tab))).modify 5 (geq2_lrelay (geq2_ltabCells (H := Unit) Rows.laid_math_bits_deBruijn64tab)) }
def geq2_zero : Value := .slice none 0 0
theorem geq2_llaid_met (os : Os) : laidMet Tryd.prog Rows.fnGlobalEqualRow.laid ((geq2_llaidWorld os).forCall (fun _ _ => 0) ⟨#[], #[geq2_zero], []⟩).memory :=
  laidMet_of_run' 200 (by kernel_rfl) (by kernel_rfl)
/-- One datum was read, and no variable. -/
def geq2_loneOf {H : Type} : Option (List (DataW H) × List (DataW H) × List MemPlace) → Bool
  | some ([_], [], _) => true
  | _ => false
theorem geq2_loneOf_some {H : Type} {x : Option (List (DataW H) × List (DataW H) × List MemPlace)} (h : geq2_loneOf x = true) : ∃ d places, x = some ([d], [], places) := by
  unfold geq2_loneOf at h
  split at h
  · exact ⟨_, _, rfl⟩
  · cases h
theorem geq2_lreads (os : Os) {H : Type} (enc : TypeId × Value → H) : ∃ d places, DataW.whole enc Tryd.prog ((geq2_llaidWorld os).forCall (fun _ _ => 0) ⟨#[], #[geq2_zero], []⟩).memory Tryd.f3.params.toList Rows.fnGlobalEqualSpec.vars false #[geq2_zero].toList 8 = some ([d], [], places) :=
  geq2_loneOf_some (by kernel_rfl)

set_option maxRecDepth 100000 in
theorem geq2_lifted (os : Os) (started : os.Started) (H : Type) (enc : TypeId × Value → H) (F : Stop.Interp) :
    ReturnsInHanded {} Tryd.checked os 3 .any ((OpenSpec.ofChange Rows.fnGlobalEqualSpec).preRow enc Tryd.prog Tryd.f3 Rows.fnGlobalEqualRow.domain false Rows.fnGlobalEqualRow.laid) (((OpenSpec.ofChange Rows.fnGlobalEqualSpec).at F).post enc Tryd.prog Tryd.f3 false true false false) := by
  obtain ⟨d, places, hx⟩ := geq2_lreads os enc
  refine returnsInHanded_of_row (C := Tryd.checked) (s := OpenSpec.ofChange Rows.fnGlobalEqualSpec) Tryd.own started (by kernel_rfl) Tryd.func3
    (witness_row_at (enc := enc) (C := Tryd.checked) false (geq2_llaidWorld os) #[geq2_zero] rfl (by kernel_rfl) (by kernel_rfl) (by kernel_rfl)
      (OpenSpec.preRow_of_cond 8 hx (by kernel_rfl) (fun k hk => by cases hk) (by kernel_rfl) (geq2_llaid_met os))) ?_
  intro W base args ds gs before hval0 hW hcnd _ _ hL _ _
  have hval : ∀ (j : Nat) t v, Tryd.f3.params[j]? = some t → args[j]? = some v → Value.okWide Tryd.prog W .any base t v := hval0
  have hW' := hW
  obtain ⟨p, q, hA0, hV, rfl, hfz, hnd⟩ := hW
  have hA : DataW.TrodAll enc Tryd.prog W 0 (fun _ => true) true Tryd.f3.params.toList args.toList ds p := hA0
  rw [Tryd.params3] at hA hval
  obtain ⟨v0, d0, rfl, rfl, h0⟩ := trodAll_one hA
  obtain ⟨l, hs⟩ := open_bytes Tryd.underlying22 (okWide_slice Tryd.underlying22 (hval 0 ( /- t -/ 22) v0 rfl rfl)) h0
  refine (geq2_walk W v0 l hs).mono fun e W' ⟨he, hb⟩ => ?_
  subst he
  exact ⟨_, rfl, law_post (s := Rows.fnGlobalEqualSpec) Tryd.laidOut (by kernel_rfl) (by kernel_rfl) Tryd.underlying4 rfl (by cases gs with | nil => rfl | cons => exact hV.elim) hW' hb⟩

theorem geq2_said : Rows.FnGlobalEqualSaid :=
  OpenClaim.holds_of_cond 3 Tryd.f3 rfl rfl rfl rfl rfl rfl rfl ⟨rfl, rfl, rfl, rfl, rfl⟩ rfl rfl rfl rfl rfl (by kernel_rfl) Tryd.func3 (by kernel_rfl)
    (of_decide_eq_true (by kernel_rfl)) (by unfold Func.isWrapper; first | (rw [if_pos (by decide +kernel)]; kernel_rfl) | (rw [if_neg (by decide +kernel)]; exact ⟨rfl, rfl⟩))
    (fun os started H enc _ F => by rw [OpenClaim.pre_eq_preRow]; exact geq2_lifted os started H enc F)

/-- No parameter wants a stand-in; the program's own looks are on. -/
theorem geq2_plain (f : FuncId) (fn : Func) (hf : Tryd.pinned.checked.prog.funcNamed "loop.example/sessiontypes/laws.FnGlobalEqual" = some f) (hfn : Tryd.pinned.checked.prog.funcs[f]? = some fn) :
    true = Tryd.pinned.checked.prog.looks [] ∧ ∀ (j : Nat) t, fn.params[j]? = some t → Tryd.pinned.checked.prog.wantsStandIn t = false := by
  obtain rfl : f = 3 := Option.some.inj ((show Tryd.prog.funcNamed "loop.example/sessiontypes/laws.FnGlobalEqual" = some 3 by kernel_rfl).symm.trans hf) |>.symm
  obtain rfl : fn = Tryd.f3 := (Option.some.inj (Tryd.func3.symm.trans hfn)).symm
  refine ⟨by kernel_rfl, fun j t ht => ?_⟩
  rw [Tryd.params3] at ht
  obtain rfl : t = ( /- t -/ 22) := by simpa using Array.mem_of_getElem? ht
  exact (show Tryd.prog.wantsStandIn ( /- t -/ 22) = false by kernel_rfl)

/-- The card. -/
theorem geq2_holds : Rows.FnGlobalEqualCardSaid :=
  Claim7.holds_tied_plain_at .later [] _ _ _ _ geq2_said (fun _ h => by cases h) (by kernel_rfl) (fun _ h => by cases h) fnGlobalEqual_row_tie rfl ⟨rfl, rfl⟩ (by kernel_rfl) rfl geq2_plain (by kernel_rfl)

#print axioms geq2_holds
end Go.Proofs.YtfppglfajbmapaaDoor
