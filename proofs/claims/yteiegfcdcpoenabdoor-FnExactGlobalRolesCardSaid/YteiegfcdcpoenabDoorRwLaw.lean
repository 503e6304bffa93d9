/- GlobalRoles answers, for every Global, as the model does and leaves its argument as it was: the law FnExactGlobalRoles returns true; its tied card. No condition. -/
import Derived.Test.YteiegfcdcpoenabDoorCards
import Derived.Test.YteiegfcdcpoenabDoorTie
import Derived.Test.YteiegfcdcpoenabDoorRw
import Derived.Test.YteiegfcdcpoenabDoorOpen
import Derived.WalkKit
import Derived.ProofKit
import Derived.OpenShut
import Derived.Deep.DeepHandedRow
import Derived.Lib.LaidTab
namespace Go.Proofs.YteiegfcdcpoenabDoor
open Go.ChangeShapes Go.WideShapes Go.ChangeAt Go.RowKit

/-- The cells of a table of numbers. -/
def rlitVal {H : Type} : DataW H → Value
  | .lit (.int k n) => .int k n
  | _ => .nilIface
def rtabCells {H : Type} : DataW H → Array Value
  | .agg l => (l.map rlitVal).toArray
  | _ => #[]
def rrelay (cs : Array Value) : Obj → Obj
  | .cells _ t frozen => .cells cs t frozen
  | o => o

/-- A world that holds the three tables: the witness. -/
noncomputable def rlaidWorld (os : Os) : World :=
  { World.holding Tryd.prog os ⟨#[], #[], []⟩ with heap := (((World.holding Tryd.prog os ⟨#[], #[], []⟩).heap.modify 1 (rrelay (rtabCells (H := Unit) Rows.laid_internal_strconv_uint64pow10))).modify 2 (rrelay (rtabCells (H := Unit) Rows.laid_math_bits_deBruijn32tab))).modify 3 (rrelay (rtabCells (H := Unit) Rows.laid_math_bits_deBruijn64tab)) }
def rzeroG : Value := .agg #[.int .i64 0, .string ⟨#[]⟩, .string ⟨#[]⟩, .int .i64 0, .slice none 0 0]
theorem rlaid_met (os : Os) : laidMet Tryd.prog Rows.fnExactGlobalRolesRow.laid ((rlaidWorld os).forCall (fun _ _ => 0) ⟨#[], #[rzeroG], []⟩).memory :=
  laidMet_of_run' 200 (by kernel_rfl) (by kernel_rfl)
/-- One datum was read, and no variable. -/
def roneOf {H : Type} : Option (List (DataW H) × List (DataW H) × List MemPlace) → Bool
  | some ([_], [], _) => true
  | _ => false
theorem roneOf_some {H : Type} {x : Option (List (DataW H) × List (DataW H) × List MemPlace)} (h : roneOf x = true) : ∃ d places, x = some ([d], [], places) := by
  unfold roneOf at h
  split at h
  · exact ⟨_, _, rfl⟩
  · cases h
theorem rreads (os : Os) {H : Type} (enc : TypeId × Value → H) : ∃ d places, DataW.whole enc Tryd.prog ((rlaidWorld os).forCall (fun _ _ => 0) ⟨#[], #[rzeroG], []⟩).memory Tryd.f3.params.toList Rows.fnExactGlobalRolesSpec.vars false #[rzeroG].toList 8 = some ([d], [], places) :=
  roneOf_some (by kernel_rfl)

set_option maxRecDepth 100000 in
theorem roles_lifted (os : Os) (started : os.Started) (H : Type) (enc : TypeId × Value → H) (F : Stop.Interp) :
    ReturnsInHanded {} Tryd.checked os 3 .any ((OpenSpec.ofChange Rows.fnExactGlobalRolesSpec).preRow enc Tryd.prog Tryd.f3 Rows.fnExactGlobalRolesRow.domain false Rows.fnExactGlobalRolesRow.laid) (((OpenSpec.ofChange Rows.fnExactGlobalRolesSpec).at F).post enc Tryd.prog Tryd.f3 false true false false) := by
  obtain ⟨d, places, hx⟩ := rreads os enc
  refine returnsInHanded_of_row (C := Tryd.checked) (s := OpenSpec.ofChange Rows.fnExactGlobalRolesSpec) Tryd.own started (by kernel_rfl) Tryd.func3
    (witness_row_at (enc := enc) (C := Tryd.checked) false (rlaidWorld os) #[rzeroG] rfl (by kernel_rfl) (by kernel_rfl) (by kernel_rfl)
      (OpenSpec.preRow_of_cond 8 hx (by kernel_rfl) (fun k hk => by cases hk) (by kernel_rfl) (rlaid_met os))) ?_
  intro W base args ds gs before hval0 hW hcnd _ _ hL _ _
  have hval : ∀ (j : Nat) t v, Tryd.f3.params[j]? = some t → args[j]? = some v → Value.okWide Tryd.prog W .any base t v := hval0
  have hW' := hW
  obtain ⟨p, q, hA0, hV, rfl, hfz, hnd⟩ := hW
  have hA : DataW.TrodAll enc Tryd.prog W 0 (fun _ => true) true Tryd.f3.params.toList args.toList ds p := hA0
  rw [Tryd.params3] at hA hval
  obtain ⟨v0, d0, rfl, rfl, h0⟩ := trodAll_one hA
  obtain ⟨k, fr, to, ix, sv, kids, rfl, w1, w2, w3, w4, hs⟩ := open_global (hval 0 ( /- t -/ 24) v0 rfl rfl) h0
  refine (roles_walk W k ix fr to sv kids hs w1 w2).mono fun e W' ⟨he, hb⟩ => ?_
  subst he
  exact ⟨_, rfl, law_post (s := Rows.fnExactGlobalRolesSpec) Tryd.laidOut (by kernel_rfl) (by kernel_rfl) Tryd.underlying4 rfl (by cases gs with | nil => rfl | cons => exact hV.elim) hW' hb⟩

theorem roles_said : Rows.FnExactGlobalRolesSaid :=
  OpenClaim.holds_of_cond 3 Tryd.f3 rfl rfl rfl rfl rfl rfl rfl ⟨rfl, rfl, rfl, rfl, rfl⟩ rfl rfl rfl rfl rfl (by kernel_rfl) Tryd.func3 (by kernel_rfl)
    (of_decide_eq_true (by kernel_rfl)) (by unfold Func.isWrapper; first | (rw [if_pos (by decide +kernel)]; kernel_rfl) | (rw [if_neg (by decide +kernel)]; exact ⟨rfl, rfl⟩))
    (fun os started H enc _ F => by rw [OpenClaim.pre_eq_preRow]; exact roles_lifted os started H enc F)

/-- No parameter wants a stand-in; the program's own looks are on. -/
theorem roles_plain (f : FuncId) (fn : Func) (hf : Tryd.pinned.checked.prog.funcNamed "loop.example/sessiontypes/laws.FnExactGlobalRoles" = some f) (hfn : Tryd.pinned.checked.prog.funcs[f]? = some fn) :
    true = Tryd.pinned.checked.prog.looks [] ∧ ∀ (j : Nat) t, fn.params[j]? = some t → Tryd.pinned.checked.prog.wantsStandIn t = false := by
  obtain rfl : f = 3 := Option.some.inj ((show Tryd.prog.funcNamed "loop.example/sessiontypes/laws.FnExactGlobalRoles" = some 3 by kernel_rfl).symm.trans hf) |>.symm
  obtain rfl : fn = Tryd.f3 := (Option.some.inj (Tryd.func3.symm.trans hfn)).symm
  refine ⟨by kernel_rfl, fun j t ht => ?_⟩
  rw [Tryd.params3] at ht
  obtain rfl : t = ( /- t -/ 24) := by simpa using Array.mem_of_getElem? ht
  exact (show Tryd.prog.wantsStandIn ( /- t -/ 24) = false by kernel_rfl)

/-- The card. -/
theorem roles_holds : Rows.FnExactGlobalRolesCardSaid :=
  Claim7.holds_tied_plain_at .later [] _ _ _ _ roles_said (fun _ h => by cases h) (by kernel_rfl) (fun _ h => by cases h) fnExactGlobalRoles_row_tie rfl ⟨rfl, rfl⟩ (by kernel_rfl) rfl roles_plain (by kernel_rfl)

#print axioms roles_holds
end Go.Proofs.YteiegfcdcpoenabDoor
