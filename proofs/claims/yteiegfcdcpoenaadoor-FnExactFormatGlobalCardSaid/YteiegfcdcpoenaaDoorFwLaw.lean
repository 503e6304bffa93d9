/- FormatGlobal answers, for every Global, as the model does and leaves its argument as it was: the law FnExactFormatGlobal returns true; its tied card. No condition. -/
import Derived.Test.YteiegfcdcpoenaaDoorCards
import Derived.Test.YteiegfcdcpoenaaDoorTie
import Derived.Test.YteiegfcdcpoenaaDoorFw
import Derived.Test.YteiegfcdcpoenaaDoorOpen
import Derived.WalkKit
import Derived.ProofKit
import Derived.OpenShut
import Derived.Deep.DeepHandedRow
import Derived.Lib.LaidTab
namespace Go.Proofs.YteiegfcdcpoenaaDoor
open Go.ChangeShapes Go.WideShapes Go.ChangeAt Go.RowKit

/-- The cells of a table of numbers. -/
def litVal {H : Type} : DataW H → Value
  | .lit (.int k n) => .int k n
  | _ => .nilIface
def tabCells {H : Type} : DataW H → Array Value
  | .agg l => (l.map litVal).toArray
  | _ => #[]
def relay (cs : Array Value) : Obj → Obj
  | .cells _ t frozen => .cells cs t frozen
  | o => o

/-- A world that holds the three tables: the witness. -/
noncomputable def laidWorld (os : Os) : World :=
  { World.holding Tryd.prog os ⟨#[], #[], []⟩ with heap := (((World.holding Tryd.prog os ⟨#[], #[], []⟩).heap.modify 1 (relay (tabCells (H := Unit) Rows.laid_internal_strconv_uint64pow10))).modify 2 (relay (tabCells (H := Unit) Rows.laid_math_bits_deBruijn32tab))).modify 3 (relay (tabCells (H := Unit) Rows.laid_math_bits_deBruijn64tab)) }
def zeroG : Value := .agg #[.int .i64 0, .string ⟨#[]⟩, .string ⟨#[]⟩, .int .i64 0, .slice none 0 0]
theorem laid_met (os : Os) : laidMet Tryd.prog Rows.fnExactFormatGlobalRow.laid ((laidWorld os).forCall (fun _ _ => 0) ⟨#[], #[zeroG], []⟩).memory :=
  laidMet_of_run' 200 (by kernel_rfl) (by kernel_rfl)
/-- One datum was read, and no variable. -/
def oneOf {H : Type} : Option (List (DataW H) × List (DataW H) × List MemPlace) → Bool
  | some ([_], [], _) => true
  | _ => false
theorem oneOf_some {H : Type} {x : Option (List (DataW H) × List (DataW H) × List MemPlace)} (h : oneOf x = true) : ∃ d places, x = some ([d], [], places) := by
  unfold oneOf at h
  split at h
  · exact ⟨_, _, rfl⟩
  · cases h
theorem reads (os : Os) {H : Type} (enc : TypeId × Value → H) : ∃ d places, DataW.whole enc Tryd.prog ((laidWorld os).forCall (fun _ _ => 0) ⟨#[], #[zeroG], []⟩).memory Tryd.f4.params.toList Rows.fnExactFormatGlobalSpec.vars false #[zeroG].toList 8 = some ([d], [], places) :=
  oneOf_some (by kernel_rfl)

set_option maxRecDepth 100000 in
theorem format_lifted (os : Os) (started : os.Started) (H : Type) (enc : TypeId × Value → H) (F : Stop.Interp) :
    ReturnsInHanded {} Tryd.checked os 4 .any ((OpenSpec.ofChange Rows.fnExactFormatGlobalSpec).preRow enc Tryd.prog Tryd.f4 Rows.fnExactFormatGlobalRow.domain false Rows.fnExactFormatGlobalRow.laid) (((OpenSpec.ofChange Rows.fnExactFormatGlobalSpec).at F).post enc Tryd.prog Tryd.f4 false true false false) := by
  obtain ⟨d, places, hx⟩ := reads os enc
  refine returnsInHanded_of_row (C := Tryd.checked) (s := OpenSpec.ofChange Rows.fnExactFormatGlobalSpec) Tryd.own started (by kernel_rfl) Tryd.func4
    (witness_row_at (enc := enc) (C := Tryd.checked) false (laidWorld os) #[zeroG] rfl (by kernel_rfl) (by kernel_rfl) (by kernel_rfl)
      (OpenSpec.preRow_of_cond 8 hx (by kernel_rfl) (fun k hk => by cases hk) (by kernel_rfl) (laid_met os))) ?_
  intro W base args ds gs before hval0 hW hcnd _ _ hL _ _
  have hval : ∀ (j : Nat) t v, Tryd.f4.params[j]? = some t → args[j]? = some v → Value.okWide Tryd.prog W .any base t v := hval0
  have hW' := hW
  obtain ⟨p, q, hA0, hV, rfl, hfz, hnd⟩ := hW
  have hA : DataW.TrodAll enc Tryd.prog W 0 (fun _ => true) true Tryd.f4.params.toList args.toList ds p := hA0
  rw [Tryd.params4] at hA hval
  obtain ⟨v0, d0, rfl, rfl, h0⟩ := trodAll_one hA
  obtain ⟨k, fr, to, ix, sv, kids, rfl, w1, w2, w3, w4, hs⟩ := open_global (hval 0 ( /- t -/ 34) v0 rfl rfl) h0
  refine (format_walk W k ix fr to sv kids hs w1 w2).mono fun e W' ⟨he, hb⟩ => ?_
  subst he
  exact ⟨_, rfl, law_post (s := Rows.fnExactFormatGlobalSpec) Tryd.laidOut (by kernel_rfl) (by kernel_rfl) Tryd.underlying4 rfl (by cases gs with | nil => rfl | cons => exact hV.elim) hW' hb⟩

theorem format_said : Rows.FnExactFormatGlobalSaid :=
  OpenClaim.holds_of_cond 4 Tryd.f4 rfl rfl rfl rfl rfl rfl rfl ⟨rfl, rfl, rfl, rfl, rfl⟩ rfl rfl rfl rfl rfl (by kernel_rfl) Tryd.func4 (by kernel_rfl)
    (of_decide_eq_true (by kernel_rfl)) (by unfold Func.isWrapper; first | (rw [if_pos (by decide +kernel)]; kernel_rfl) | (rw [if_neg (by decide +kernel)]; exact ⟨rfl, rfl⟩))
    (fun os started H enc _ F => by rw [OpenClaim.pre_eq_preRow]; exact format_lifted os started H enc F)

/-- No parameter wants a stand-in; the program's own looks are on. -/
theorem format_plain (f : FuncId) (fn : Func) (hf : Tryd.pinned.checked.prog.funcNamed "loop.example/sessiontypes/laws.FnExactFormatGlobal" = some f) (hfn : Tryd.pinned.checked.prog.funcs[f]? = some fn) :
    true = Tryd.pinned.checked.prog.looks [] ∧ ∀ (j : Nat) t, fn.params[j]? = some t → Tryd.pinned.checked.prog.wantsStandIn t = false := by
  obtain rfl : f = 4 := Option.some.inj ((show Tryd.prog.funcNamed "loop.example/sessiontypes/laws.FnExactFormatGlobal" = some 4 by kernel_rfl).symm.trans hf) |>.symm
  obtain rfl : fn = Tryd.f4 := (Option.some.inj (Tryd.func4.symm.trans hfn)).symm
  refine ⟨by kernel_rfl, fun j t ht => ?_⟩
  rw [Tryd.params4] at ht
  obtain rfl : t = ( /- t -/ 34) := by simpa using Array.mem_of_getElem? ht
  exact (show Tryd.prog.wantsStandIn ( /- t -/ 34) = false by kernel_rfl)

/-- The card. -/
theorem format_holds : Rows.FnExactFormatGlobalCardSaid :=
  Claim7.holds_tied_plain_at .later [] _ _ _ _ format_said (fun _ h => by cases h) (by kernel_rfl) (fun _ h => by cases h) fnExactFormatGlobal_row_tie rfl ⟨rfl, rfl⟩ (by kernel_rfl) rfl format_plain (by kernel_rfl)

#print axioms format_holds
end Go.Proofs.YteiegfcdcpoenaaDoor
