/- A message in front of a valid type steps to that type. The law FnGlobalPrefix returns true for every input; its tied card. No condition. -/
import Derived.Test.YtgcefippeokmcaaDoorCards
import Derived.Test.YtgcefippeokmcaaDoorTie
import Derived.Test.YtgcefippeokmcaaDoorE11
import Derived.Test.YtgcefippeokmcaaDoorH10
import Derived.WalkKit
import Derived.ProofKit
import Derived.OpenShut
import Derived.Deep.DeepHandedRow
import Derived.Lib.LaidTab
namespace Go.Proofs.YtgcefippeokmcaaDoor
open Go.ChangeShapes Go.WideShapes Go.ChangeAt Go.RowKit

/-- The cells of a table of numbers. -/
def gpr_llitVal {H : Type} : DataW H → Value
  | .lit (.int k n) => .int k n
  | _ => .nilIface
def gpr_ltabCells {H : Type} : DataW H → Array Value
  | .agg l => (l.map gpr_llitVal).toArray
  | _ => #[]
def gpr_lrelay (cs : Array Value) : Obj → Obj
  | .cells _ t frozen => .cells cs t frozen
  | o => o

/-- A world that holds the three tables: the witness. -/
noncomputable def gpr_llaidWorld (os : Os) : World :=
  { World.holding Tryd.prog os ⟨#[], #[], []⟩ with heap := (((World.holding Tryd.prog os ⟨#[], #[], []⟩).heap.modify 1 (gpr_lrelay (gpr_ltabCells (H := Unit) Rows.laid_internal_strconv_uint64pow10))).modify 2 (gpr_lrelay (gpr_ltabCells (H := Unit) Rows.laid_math_bits_deBruijn32tab))).modify 3 (gpr_lrelay (gpr_ltabCells (H := Unit) Rows.laid_math_bits_deBruijn64tab)) }
def gpr_zero : Value := .slice none 0 0
theorem gpr_llaid_met (os : Os) : laidMet Tryd.prog Rows.fnGlobalPrefixRow.laid ((gpr_llaidWorld os).forCall (fun _ _ => 0) ⟨#[], #[gpr_zero], []⟩).memory :=
  laidMet_of_run' 200 (by kernel_rfl) (by kernel_rfl)
/-- One datum was read, and no variable. -/
def gpr_loneOf {H : Type} : Option (List (DataW H) × List (DataW H) × List MemPlace) → Bool
  | some ([_], [], _) => true
  | _ => false
theorem gpr_loneOf_some {H : Type} {x : Option (List (DataW H) × List (DataW H) × List MemPlace)} (h : gpr_loneOf x = true) : ∃ d places, x = some ([d], [], places) := by
  unfold gpr_loneOf at h
  split at h
  · exact ⟨_, _, rfl⟩
  · cases h
theorem gpr_lreads (os : Os) {H : Type} (enc : TypeId × Value → H) : ∃ d places, DataW.whole enc Tryd.prog ((gpr_llaidWorld os).forCall (fun _ _ => 0) ⟨#[], #[gpr_zero], []⟩).memory Tryd.f11.params.toList Rows.fnGlobalPrefixSpec.vars false #[gpr_zero].toList 8 = some ([d], [], places) :=
  gpr_loneOf_some (by kernel_rfl)

set_option maxRecDepth 100000 in
theorem gpr_lifted (os : Os) (started : os.Started) (H : Type) (enc : TypeId × Value → H) (F : Stop.Interp) :
    ReturnsInHanded {} Tryd.checked os 11 .any ((OpenSpec.ofChange Rows.fnGlobalPrefixSpec).preRow enc Tryd.prog Tryd.f11 Rows.fnGlobalPrefixRow.domain false Rows.fnGlobalPrefixRow.laid) (((OpenSpec.ofChange Rows.fnGlobalPrefixSpec).at F).post enc Tryd.prog Tryd.f11 false true false false) := by
  obtain ⟨d, places, hx⟩ := gpr_lreads os enc
  refine returnsInHanded_of_row (C := Tryd.checked) (s := OpenSpec.ofChange Rows.fnGlobalPrefixSpec) Tryd.own started (by kernel_rfl) Tryd.func11
    (witness_row_at (enc := enc) (C := Tryd.checked) false (gpr_llaidWorld os) #[gpr_zero] rfl (by kernel_rfl) (by kernel_rfl) (by kernel_rfl)
      (OpenSpec.preRow_of_cond 8 hx (by kernel_rfl) (fun k hk => by cases hk) (by kernel_rfl) (gpr_llaid_met os))) ?_
  intro W base args ds gs before hval0 hW hcnd _ _ hL _ _
  have hval : ∀ (j : Nat) t v, Tryd.f11.params[j]? = some t → args[j]? = some v → Value.okWide Tryd.prog W .any base t v := hval0
  have hW' := hW
  obtain ⟨p, q, hA0, hV, rfl, hfz, hnd⟩ := hW
  have hA : DataW.TrodAll enc Tryd.prog W 0 (fun _ => true) true Tryd.f11.params.toList args.toList ds p := hA0
  rw [Tryd.params11] at hA hval
  obtain ⟨v0, d0, rfl, rfl, h0⟩ := trodAll_one hA
  obtain ⟨l, hs⟩ := open_bytes Tryd.underlying22 (okWide_slice Tryd.underlying22 (hval 0 ( /- t -/ 22) v0 rfl rfl)) h0
  refine (gpr_walk W v0 l hs).mono fun e W' ⟨he, hb⟩ => ?_
  subst he
  exact ⟨_, rfl, law_post (s := Rows.fnGlobalPrefixSpec) Tryd.laidOut (by kernel_rfl) (by kernel_rfl) Tryd.underlying4 rfl (by cases gs with | nil => rfl | cons => exact hV.elim) hW' hb⟩

theorem gpr_said : Rows.FnGlobalPrefixSaid :=
  OpenClaim.holds_of_cond 11 Tryd.f11 rfl rfl rfl rfl rfl rfl rfl ⟨rfl, rfl, rfl, rfl, rfl⟩ rfl rfl rfl rfl rfl (by kernel_rfl) Tryd.func11 (by kernel_rfl)
    (of_decide_eq_true (by kernel_rfl)) (by unfold Func.isWrapper; first | (rw [if_pos (by decide +kernel)]; kernel_rfl) | (rw [if_neg (by decide +kernel)]; exact ⟨rfl, rfl⟩))
    (fun os started H enc _ F => by rw [OpenClaim.pre_eq_preRow]; exact gpr_lifted os started H enc F)

/-- No parameter wants a stand-in; the program's own looks are on. -/
theorem gpr_plain (f : FuncId) (fn : Func) (hf : Tryd.pinned.checked.prog.funcNamed "loop.example/sessiontypes/laws.FnGlobalPrefix" = some f) (hfn : Tryd.pinned.checked.prog.funcs[f]? = some fn) :
    true = Tryd.pinned.checked.prog.looks [] ∧ ∀ (j : Nat) t, fn.params[j]? = some t → Tryd.pinned.checked.prog.wantsStandIn t = false := by
  obtain rfl : f = 11 := Option.some.inj ((show Tryd.prog.funcNamed "loop.example/sessiontypes/laws.FnGlobalPrefix" = some 11 by kernel_rfl).symm.trans hf) |>.symm
  obtain rfl : fn = Tryd.f11 := (Option.some.inj (Tryd.func11.symm.trans hfn)).symm
  refine ⟨by kernel_rfl, fun j t ht => ?_⟩
  rw [Tryd.params11] at ht
  obtain rfl : t = ( /- t -/ 22) := by simpa using Array.mem_of_getElem? ht
  exact (show Tryd.prog.wantsStandIn ( /- t -/ 22) = false by kernel_rfl)

/-- The card. -/
theorem gpr_holds : Rows.FnGlobalPrefixCardSaid :=
  Claim7.holds_tied_plain_at .later [] _ _ _ _ gpr_said (fun _ h => by cases h) (by kernel_rfl) (fun _ h => by cases h) fnGlobalPrefix_row_tie rfl ⟨rfl, rfl⟩ (by kernel_rfl) rfl gpr_plain (by kernel_rfl)

#print axioms gpr_holds
end Go.Proofs.YtgcefippeokmcaaDoor
