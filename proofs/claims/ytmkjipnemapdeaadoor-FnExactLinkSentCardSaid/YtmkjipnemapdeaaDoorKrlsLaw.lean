/- LinkSent answers, for every Link, as the model does and leaves its argument as it was: the law FnExactLinkSent returns true; its tied card. No condition. -/
import Derived.Test.YtmkjipnemapdeaaDoorCards
import Derived.Test.YtmkjipnemapdeaaDoorTie
import Derived.Test.YtmkjipnemapdeaaDoorKr
import Derived.WalkKit
import Derived.ProofKit
import Derived.OpenShut
import Derived.Deep.DeepHandedRow
import Derived.Lib.LaidTab
namespace Go.Proofs.YtmkjipnemapdeaaDoor
open Go.ChangeShapes Go.WideShapes Go.ChangeAt Go.RowKit

/-- The cells of a table of numbers. -/
def lslitVal {H : Type} : DataW H → Value
  | .lit (.int k n) => .int k n
  | _ => .nilIface
def lstabCells {H : Type} : DataW H → Array Value
  | .agg l => (l.map lslitVal).toArray
  | _ => #[]
def lsrelay (cs : Array Value) : Obj → Obj
  | .cells _ t frozen => .cells cs t frozen
  | o => o

/-- The cells of a table of pairs of numbers. -/
def lspairCells {H : Type} : DataW H → Array Value
  | .agg l => (l.flatMap fun x => match x with | .agg y => y.map lslitVal | _ => []).toArray
  | _ => #[]
/-- A world that holds the two tables: the witness. -/
noncomputable def lslaidWorld (os : Os) : World :=
  { World.holding Tryd.prog os ⟨#[], #[], []⟩ with heap := ((World.holding Tryd.prog os ⟨#[], #[], []⟩).heap.modify 1 (lsrelay (lspairCells (H := Unit) Rows.laid_unicode_utf8_acceptRanges))).modify 0 (lsrelay (lstabCells (H := Unit) Rows.laid_unicode_utf8_first)) }
def lszero : Value := .agg #[.int .i64 0, .string ⟨#[]⟩, .int .i64 0, .string ⟨#[]⟩, .slice none 0 0, .slice none 0 0]
theorem lslaid_met (os : Os) : laidMet Tryd.prog Rows.fnExactLinkSentRow.laid ((lslaidWorld os).forCall (fun _ _ => 0) ⟨#[], #[lszero], []⟩).memory :=
  laidMet_of_run' 200 (by kernel_rfl) (by kernel_rfl)
/-- One datum was read, and no variable. -/
def lsoneOf {H : Type} : Option (List (DataW H) × List (DataW H) × List MemPlace) → Bool
  | some ([_], [], _) => true
  | _ => false
theorem lsoneOf_some {H : Type} {x : Option (List (DataW H) × List (DataW H) × List MemPlace)} (h : lsoneOf x = true) : ∃ d places, x = some ([d], [], places) := by
  unfold lsoneOf at h
  split at h
  · exact ⟨_, _, rfl⟩
  · cases h
theorem lsreads (os : Os) {H : Type} (enc : TypeId × Value → H) : ∃ d places, DataW.whole enc Tryd.prog ((lslaidWorld os).forCall (fun _ _ => 0) ⟨#[], #[lszero], []⟩).memory Tryd.f4.params.toList Rows.fnExactLinkSentSpec.vars false #[lszero].toList 8 = some ([d], [], places) :=
  lsoneOf_some (by kernel_rfl)

set_option maxRecDepth 100000 in
theorem ls_lifted (os : Os) (started : os.Started) (H : Type) (enc : TypeId × Value → H) (F : Stop.Interp) :
    ReturnsInHanded {} Tryd.checked os 4 .any ((OpenSpec.ofChange Rows.fnExactLinkSentSpec).preRow enc Tryd.prog Tryd.f4 Rows.fnExactLinkSentRow.domain false Rows.fnExactLinkSentRow.laid) (((OpenSpec.ofChange Rows.fnExactLinkSentSpec).at F).post enc Tryd.prog Tryd.f4 false true false false) := by
  obtain ⟨d, places, hx⟩ := lsreads os enc
  refine returnsInHanded_of_row (C := Tryd.checked) (s := OpenSpec.ofChange Rows.fnExactLinkSentSpec) Tryd.own started (by kernel_rfl) Tryd.func4
    (witness_row_at (enc := enc) (C := Tryd.checked) false (lslaidWorld os) #[lszero] rfl (by kernel_rfl) (by kernel_rfl) (by kernel_rfl)
      (OpenSpec.preRow_of_cond 8 hx (by kernel_rfl) (fun k hk => by cases hk) (by kernel_rfl) (lslaid_met os))) ?_
  intro W base args ds gs before hval0 hW hcnd _ _ hL _ _
  have hval : ∀ (j : Nat) t v, Tryd.f4.params[j]? = some t → args[j]? = some v → Value.okWide Tryd.prog W .any base t v := hval0
  have hW' := hW
  obtain ⟨p, q, hA0, hV, rfl, hfz, hnd⟩ := hW
  have hA : DataW.TrodAll enc Tryd.prog W 0 (fun _ => true) true Tryd.f4.params.toList args.toList ds p := hA0
  rw [Tryd.params4] at hA hval
  obtain ⟨v0, d0, rfl, rfl, h0⟩ := trodAll_one hA
  obtain ⟨m, pv, av, rfl, hp, ha, hf⟩ := Tk.open_link (hval 0 ( /- t -/ 25) v0 rfl rfl) h0
  refine (Tk.ls_walk W m pv av hp ha hf).mono fun e W' ⟨he, hb⟩ => ?_
  subst he
  exact ⟨_, rfl, law_post (s := Rows.fnExactLinkSentSpec) Tryd.laidOut (by kernel_rfl) (by kernel_rfl) Tryd.underlying4 rfl (by cases gs with | nil => rfl | cons => exact hV.elim) hW' hb⟩

theorem ls_said : Rows.FnExactLinkSentSaid :=
  OpenClaim.holds_of_cond 4 Tryd.f4 rfl rfl rfl rfl rfl rfl rfl ⟨rfl, rfl, rfl, rfl, rfl⟩ rfl rfl rfl rfl rfl (by kernel_rfl) Tryd.func4 (by kernel_rfl)
    (of_decide_eq_true (by kernel_rfl)) (by unfold Func.isWrapper; first | (rw [if_pos (by decide +kernel)]; kernel_rfl) | (rw [if_neg (by decide +kernel)]; exact ⟨rfl, rfl⟩))
    (fun os started H enc _ F => by rw [OpenClaim.pre_eq_preRow]; exact ls_lifted os started H enc F)

/-- No parameter wants a stand-in; the program's own looks are off. -/
theorem ls_plain (f : FuncId) (fn : Func) (hf : Tryd.pinned.checked.prog.funcNamed "loop.example/sessiontypes/laws.FnExactLinkSent" = some f) (hfn : Tryd.pinned.checked.prog.funcs[f]? = some fn) :
    false = Tryd.pinned.checked.prog.looks [] ∧ ∀ (j : Nat) t, fn.params[j]? = some t → Tryd.pinned.checked.prog.wantsStandIn t = false := by
  obtain rfl : f = 4 := Option.some.inj ((show Tryd.prog.funcNamed "loop.example/sessiontypes/laws.FnExactLinkSent" = some 4 by kernel_rfl).symm.trans hf) |>.symm
  obtain rfl : fn = Tryd.f4 := (Option.some.inj (Tryd.func4.symm.trans hfn)).symm
  refine ⟨by kernel_rfl, fun j t ht => ?_⟩
  rw [Tryd.params4] at ht
  obtain rfl : t = ( /- t -/ 25) := by simpa using Array.mem_of_getElem? ht
  exact (show Tryd.prog.wantsStandIn ( /- t -/ 25) = false by kernel_rfl)

/-- The card. -/
theorem ls_holds : Rows.FnExactLinkSentCardSaid :=
  Claim7.holds_tied_plain_at .later [] _ _ _ _ ls_said (fun _ h => by cases h) (by kernel_rfl) (fun _ h => by cases h) fnExactLinkSent_row_tie rfl ⟨rfl, rfl⟩ (by kernel_rfl) rfl ls_plain (by kernel_rfl)

#print axioms ls_holds
end Go.Proofs.YtmkjipnemapdeaaDoor
