/- The text of a local type, and one that reads back as it. The law FnLocalText returns true for every input; its tied card. No condition. -/
import Derived.Test.YtgcefippeokmcaaDoorCards
import Derived.Test.YtgcefippeokmcaaDoorTie
import Derived.Test.YtgcefippeokmcaaDoorF17
import Derived.Test.YtgcefippeokmcaaDoorJ16
import Derived.WalkKit
import Derived.ProofKit
import Derived.OpenShut
import Derived.Deep.DeepHandedRow
import Derived.Lib.LaidTab
namespace Go.Proofs.YtgcefippeokmcaaDoor
open Go.ChangeShapes Go.WideShapes Go.ChangeAt Go.RowKit

/-- The cells of a table of numbers. -/
def ltx_llitVal {H : Type} : DataW H → Value
  | .lit (.int k n) => .int k n
  | _ => .nilIface
def ltx_ltabCells {H : Type} : DataW H → Array Value
  | .agg l => (l.map ltx_llitVal).toArray
  | _ => #[]
def ltx_lrelay (cs : Array Value) : Obj → Obj
  | .cells _ t frozen => .cells cs t frozen
  | o => o

/-- A world that holds the three tables: the witness. -/
noncomputable def ltx_llaidWorld (os : Os) : World :=
  { World.holding Tryd.prog os ⟨#[], #[], []⟩ with heap := (((World.holding Tryd.prog os ⟨#[], #[], []⟩).heap.modify 1 (ltx_lrelay (ltx_ltabCells (H := Unit) Rows.laid_internal_strconv_uint64pow10))).modify 2 (ltx_lrelay (ltx_ltabCells (H := Unit) Rows.laid_math_bits_deBruijn32tab))).modify 3 (ltx_lrelay (ltx_ltabCells (H := Unit) Rows.laid_math_bits_deBruijn64tab)) }
def ltx_zero : Value := .slice none 0 0
theorem ltx_llaid_met (os : Os) : laidMet Tryd.prog Rows.fnLocalTextRow.laid ((ltx_llaidWorld os).forCall (fun _ _ => 0) ⟨#[], #[ltx_zero, ltx_zero], []⟩).memory :=
  laidMet_of_run' 200 (by kernel_rfl) (by kernel_rfl)
/-- Two data were read, and no variable. -/
def ltx_loneOf {H : Type} : Option (List (DataW H) × List (DataW H) × List MemPlace) → Bool
  | some ([_, _], [], _) => true
  | _ => false
theorem ltx_loneOf_some {H : Type} {x : Option (List (DataW H) × List (DataW H) × List MemPlace)} (h : ltx_loneOf x = true) : ∃ d d2 places, x = some ([d, d2], [], places) := by
  unfold ltx_loneOf at h
  split at h
  · exact ⟨_, _, _, rfl⟩
  · cases h
theorem ltx_lreads (os : Os) {H : Type} (enc : TypeId × Value → H) : ∃ d d2 places, DataW.whole enc Tryd.prog ((ltx_llaidWorld os).forCall (fun _ _ => 0) ⟨#[], #[ltx_zero, ltx_zero], []⟩).memory Tryd.f5.params.toList Rows.fnLocalTextSpec.vars false #[ltx_zero, ltx_zero].toList 8 = some ([d, d2], [], places) :=
  ltx_loneOf_some (by kernel_rfl)

set_option maxRecDepth 100000 in
theorem ltx_lifted (os : Os) (started : os.Started) (H : Type) (enc : TypeId × Value → H) (F : Stop.Interp) :
    ReturnsInHanded {} Tryd.checked os 5 .any ((OpenSpec.ofChange Rows.fnLocalTextSpec).preRow enc Tryd.prog Tryd.f5 Rows.fnLocalTextRow.domain false Rows.fnLocalTextRow.laid) (((OpenSpec.ofChange Rows.fnLocalTextSpec).at F).post enc Tryd.prog Tryd.f5 false true false false) := by
  obtain ⟨d, d2, places, hx⟩ := ltx_lreads os enc
  refine returnsInHanded_of_row (C := Tryd.checked) (s := OpenSpec.ofChange Rows.fnLocalTextSpec) Tryd.own started (by kernel_rfl) Tryd.func5
    (witness_row_at (enc := enc) (C := Tryd.checked) false (ltx_llaidWorld os) #[ltx_zero, ltx_zero] rfl (by kernel_rfl) (by kernel_rfl) (by kernel_rfl)
      (OpenSpec.preRow_of_cond 8 hx (by kernel_rfl) (fun k hk => by cases hk) (by kernel_rfl) (ltx_llaid_met os))) ?_
  intro W base args ds gs before hval0 hW hcnd _ _ hL _ _
  have hval : ∀ (j : Nat) t v, Tryd.f5.params[j]? = some t → args[j]? = some v → Value.okWide Tryd.prog W .any base t v := hval0
  have hW' := hW
  obtain ⟨p, q, hA0, hV, rfl, hfz, hnd⟩ := hW
  have hA : DataW.TrodAll enc Tryd.prog W 0 (fun _ => true) true Tryd.f5.params.toList args.toList ds p := hA0
  rw [Tryd.params5] at hA hval
  obtain ⟨v0, v1, d0, d1, p0, p1, rfl, rfl, rfl, h0, h1⟩ := trodAll_two hA
  obtain ⟨l, hs⟩ := open_bytes Tryd.underlying22 (okWide_slice Tryd.underlying22 (hval 0 ( /- t -/ 22) v0 rfl rfl)) h0
  obtain ⟨l2, hs2⟩ := open_bytes Tryd.underlying22 (okWide_slice Tryd.underlying22 (hval 1 ( /- t -/ 22) v1 rfl rfl)) h1
  refine (Lo.ltx_walk W v0 v1 l l2 hs hs2).mono fun e W' ⟨he, hb⟩ => ?_
  subst he
  exact ⟨_, rfl, law_post (s := Rows.fnLocalTextSpec) Tryd.laidOut (by kernel_rfl) (by kernel_rfl) Tryd.underlying4 rfl (by cases gs with | nil => rfl | cons => exact hV.elim) hW' hb⟩

theorem ltx_said : Rows.FnLocalTextSaid :=
  OpenClaim.holds_of_cond 5 Tryd.f5 rfl rfl rfl rfl rfl rfl rfl ⟨rfl, rfl, rfl, rfl, rfl⟩ rfl rfl rfl rfl rfl (by kernel_rfl) Tryd.func5 (by kernel_rfl)
    (of_decide_eq_true (by kernel_rfl)) (by unfold Func.isWrapper; first | (rw [if_pos (by decide +kernel)]; kernel_rfl) | (rw [if_neg (by decide +kernel)]; exact ⟨rfl, rfl⟩))
    (fun os started H enc _ F => by rw [OpenClaim.pre_eq_preRow]; exact ltx_lifted os started H enc F)

/-- No parameter wants a stand-in; the program's own looks are on. -/
theorem ltx_plain (f : FuncId) (fn : Func) (hf : Tryd.pinned.checked.prog.funcNamed "loop.example/sessiontypes/laws.FnLocalText" = some f) (hfn : Tryd.pinned.checked.prog.funcs[f]? = some fn) :
    true = Tryd.pinned.checked.prog.looks [] ∧ ∀ (j : Nat) t, fn.params[j]? = some t → Tryd.pinned.checked.prog.wantsStandIn t = false := by
  obtain rfl : f = 5 := Option.some.inj ((show Tryd.prog.funcNamed "loop.example/sessiontypes/laws.FnLocalText" = some 5 by kernel_rfl).symm.trans hf) |>.symm
  obtain rfl : fn = Tryd.f5 := (Option.some.inj (Tryd.func5.symm.trans hfn)).symm
  refine ⟨by kernel_rfl, fun j t ht => ?_⟩
  rw [Tryd.params5] at ht
  obtain rfl : t = ( /- t -/ 22) := by simpa using Array.mem_of_getElem? ht
  exact (show Tryd.prog.wantsStandIn ( /- t -/ 22) = false by kernel_rfl)

/-- The card. -/
theorem ltx_holds : Rows.FnLocalTextCardSaid :=
  Claim7.holds_tied_plain_at .later [] _ _ _ _ ltx_said (fun _ h => by cases h) (by kernel_rfl) (fun _ h => by cases h) fnLocalText_row_tie rfl ⟨rfl, rfl⟩ (by kernel_rfl) rfl ltx_plain (by kernel_rfl)

#print axioms ltx_holds
end Go.Proofs.YtgcefippeokmcaaDoor
