/- LinkValid answers, for every Link, as the model does and leaves its argument as it was: the law FnExactLinkValid returns true; its tied card. No condition. -/
import Derived.Test.YtmkjipnemapdeaaDoorCards
import Derived.Test.YtmkjipnemapdeaaDoorTie
import Derived.Test.YtmkjipnemapdeaaDoorKr
import Derived.WalkKit
import Derived.ProofKit
import Derived.OpenShut
import Derived.Deep.DeepHandedRow
import Derived.Lib.LaidTab
namespace Go.Proofs.YtmkjipnemapdeaaDoor
open Go.ChangeShapes Go.WideShapes Go.ChangeAt Go.RowKit

/-- The cells of a table of numbers. -/
def lvlitVal {H : Type} : DataW H → Value
  | .lit (.int k n) => .int k n
  | _ => .nilIface
def lvtabCells {H : Type} : DataW H → Array Value
  | .agg l => (l.map lvlitVal).toArray
  | _ => #[]
def lvrelay (cs : Array Value) : Obj → Obj
  | .cells _ t frozen => .cells cs t frozen
  | o => o

/-- The cells of a table of pairs of numbers. -/
def lvpairCells {H : Type} : DataW H → Array Value
  | .agg l => (l.flatMap fun x => match x with | .agg y => y.map lvlitVal | _ => []).toArray
  | _ => #[]
/-- A world that holds the two tables: the witness. -/
noncomputable def lvlaidWorld (os : Os) : World :=
  { World.holding Tryd.prog os ⟨#[], #[], []⟩ with heap := ((World.holding Tryd.prog os ⟨#[], #[], []⟩).heap.modify 1 (lvrelay (lvpairCells (H := Unit) Rows.laid_unicode_utf8_acceptRanges))).modify 0 (lvrelay (lvtabCells (H := Unit) Rows.laid_unicode_utf8_first)) }
def lvzero : Value := .agg #[.int .i64 0, .string ⟨#[]⟩, .int .i64 0, .string ⟨#[]⟩, .slice none 0 0, .slice none 0 0]
theorem lvlaid_met (os : Os) : laidMet Tryd.prog Rows.fnExactLinkValidRow.laid ((lvlaidWorld os).forCall (fun _ _ => 0) ⟨#[], #[lvzero], []⟩).memory :=
  laidMet_of_run' 200 (by kernel_rfl) (by kernel_rfl)
/-- One datum was read, and no variable. -/
def lvoneOf {H : Type} : Option (List (DataW H) × List (DataW H) × List MemPlace) → Bool
  | some ([_], [], _) => true
  | _ => false
theorem lvoneOf_some {H : Type} {x : Option (List (DataW H) × List (DataW H) × List MemPlace)} (h : lvoneOf x = true) : ∃ d places, x = some ([d], [], places) := by
  unfold lvoneOf at h
  split at h
  · exact ⟨_, _, rfl⟩
  · cases h
theorem lvreads (os : Os) {H : Type} (enc : TypeId × Value → H) : ∃ d places, DataW.whole enc Tryd.prog ((lvlaidWorld os).forCall (fun _ _ => 0) ⟨#[], #[lvzero], []⟩).memory Tryd.f3.params.toList Rows.fnExactLinkValidSpec.vars false #[lvzero].toList 8 = some ([d], [], places) :=
  lvoneOf_some (by kernel_rfl)

set_option maxRecDepth 100000 in
theorem lv_lifted (os : Os) (started : os.Started) (H : Type) (enc : TypeId × Value → H) (F : Stop.Interp) :
    ReturnsInHanded {} Tryd.checked os 3 .any ((OpenSpec.ofChange Rows.fnExactLinkValidSpec).preRow enc Tryd.prog Tryd.f3 Rows.fnExactLinkValidRow.domain false Rows.fnExactLinkValidRow.laid) (((OpenSpec.ofChange Rows.fnExactLinkValidSpec).at F).post enc Tryd.prog Tryd.f3 false true false false) := by
  obtain ⟨d, places, hx⟩ := lvreads os enc
  refine returnsInHanded_of_row (C := Tryd.checked) (s := OpenSpec.ofChange Rows.fnExactLinkValidSpec) Tryd.own started (by kernel_rfl) Tryd.func3
    (witness_row_at (enc := enc) (C := Tryd.checked) false (lvlaidWorld os) #[lvzero] rfl (by kernel_rfl) (by kernel_rfl) (by kernel_rfl)
      (OpenSpec.preRow_of_cond 8 hx (by kernel_rfl) (fun k hk => by cases hk) (by kernel_rfl) (lvlaid_met os))) ?_
  intro W base args ds gs before hval0 hW hcnd _ _ hL _ _
  have hval : ∀ (j : Nat) t v, Tryd.f3.params[j]? = some t → args[j]? = some v → Value.okWide Tryd.prog W .any base t v := hval0
  have hW' := hW
  obtain ⟨p, q, hA0, hV, rfl, hfz, hnd⟩ := hW
  have hA : DataW.TrodAll enc Tryd.prog W 0 (fun _ => true) true Tryd.f3.params.toList args.toList ds p := hA0
  rw [Tryd.params3] at hA hval
  obtain ⟨v0, d0, rfl, rfl, h0⟩ := trodAll_one hA
  obtain ⟨m, pv, av, rfl, hp, ha, hf⟩ := Tk.open_link (hval 0 ( /- t -/ 25) v0 rfl rfl) h0
  refine (Tk.lv_walk W m pv av hp ha hf).mono fun e W' ⟨he, hb⟩ => ?_
  subst he
  exact ⟨_, rfl, law_post (s := Rows.fnExactLinkValidSpec) Tryd.laidOut (by kernel_rfl) (by kernel_rfl) Tryd.underlying4 rfl (by cases gs with | nil => rfl | cons => exact hV.elim) hW' hb⟩

theorem lv_said : Rows.FnExactLinkValidSaid :=
  OpenClaim.holds_of_cond 3 Tryd.f3 rfl rfl rfl rfl rfl rfl rfl ⟨rfl, rfl, rfl, rfl, rfl⟩ rfl rfl rfl rfl rfl (by kernel_rfl) Tryd.func3 (by kernel_rfl)
    (of_decide_eq_true (by kernel_rfl)) (by unfold Func.isWrapper; first | (rw [if_pos (by decide +kernel)]; kernel_rfl) | (rw [if_neg (by decide +kernel)]; exact ⟨rfl, rfl⟩))
    (fun os started H enc _ F => by rw [OpenClaim.pre_eq_preRow]; exact lv_lifted os started H enc F)

/-- No parameter wants a stand-in; the program's own looks are off. -/
theorem lv_plain (f : FuncId) (fn : Func) (hf : Tryd.pinned.checked.prog.funcNamed "loop.example/sessiontypes/laws.FnExactLinkValid" = some f) (hfn : Tryd.pinned.checked.prog.funcs[f]? = some fn) :
    false = Tryd.pinned.checked.prog.looks [] ∧ ∀ (j : Nat) t, fn.params[j]? = some t → Tryd.pinned.checked.prog.wantsStandIn t = false := by
  obtain rfl : f = 3 := Option.some.inj ((show Tryd.prog.funcNamed "loop.example/sessiontypes/laws.FnExactLinkValid" = some 3 by kernel_rfl).symm.trans hf) |>.symm
  obtain rfl : fn = Tryd.f3 := (Option.some.inj (Tryd.func3.symm.trans hfn)).symm
  refine ⟨by kernel_rfl, fun j t ht => ?_⟩
  rw [Tryd.params3] at ht
  obtain rfl : t = ( /- t -/ 25) := by simpa using Array.mem_of_getElem? ht
  exact (show Tryd.prog.wantsStandIn ( /- t -/ 25) = false by kernel_rfl)

/-- The card. -/
theorem lv_holds : Rows.FnExactLinkValidCardSaid :=
  Claim7.holds_tied_plain_at .later [] _ _ _ _ lv_said (fun _ h => by cases h) (by kernel_rfl) (fun _ h => by cases h) fnExactLinkValid_row_tie rfl ⟨rfl, rfl⟩ (by kernel_rfl) rfl lv_plain (by kernel_rfl)

#print axioms lv_holds
end Go.Proofs.YtmkjipnemapdeaaDoor
