/- LocalPeers answers, for every Local, as the model does and leaves its argument as it was: the law FnExactLocalPeers returns true; its tied card. No condition. -/
import Derived.Test.YtfppglfajbmapaaDoorCards
import Derived.Test.YtfppglfajbmapaaDoorTie
import Derived.Test.YtfppglfajbmapaaDoorLPw
import Derived.Test.YtfppglfajbmapaaDoorLOpen
import Derived.WalkKit
import Derived.ProofKit
import Derived.OpenShut
import Derived.Deep.DeepHandedRow
import Derived.Lib.LaidTab
namespace Go.Proofs.YtfppglfajbmapaaDoor
open Go.ChangeShapes Go.WideShapes Go.ChangeAt Go.RowKit

/-- The cells of a table of numbers. -/
def llitVal {H : Type} : DataW H → Value
  | .lit (.int k n) => .int k n
  | _ => .nilIface
def ltabCells {H : Type} : DataW H → Array Value
  | .agg l => (l.map llitVal).toArray
  | _ => #[]
def lrelay (cs : Array Value) : Obj → Obj
  | .cells _ t frozen => .cells cs t frozen
  | o => o

/-- A world that holds the three tables: the witness. -/
noncomputable def llaidWorld (os : Os) : World :=
  { World.holding Tryd.prog os ⟨#[], #[], []⟩ with heap := (((World.holding Tryd.prog os ⟨#[], #[], []⟩).heap.modify 1 (lrelay (ltabCells (H := Unit) Rows.laid_internal_strconv_uint64pow10))).modify 4 (lrelay (ltabCells (H := Unit) Rows.laid_math_bits_deBruijn32tab))).modify 5 (lrelay (ltabCells (H := Unit) Rows.laid_math_bits_deBruijn64tab)) }
def zeroL : Value := .agg #[.int .i64 0, .string ⟨#[]⟩, .int .i64 0, .slice none 0 0]
theorem llaid_met (os : Os) : laidMet Tryd.prog Rows.fnExactLocalPeersRow.laid ((llaidWorld os).forCall (fun _ _ => 0) ⟨#[], #[zeroL], []⟩).memory :=
  laidMet_of_run' 200 (by kernel_rfl) (by kernel_rfl)
/-- One datum was read, and no variable. -/
def loneOf {H : Type} : Option (List (DataW H) × List (DataW H) × List MemPlace) → Bool
  | some ([_], [], _) => true
  | _ => false
theorem loneOf_some {H : Type} {x : Option (List (DataW H) × List (DataW H) × List MemPlace)} (h : loneOf x = true) : ∃ d places, x = some ([d], [], places) := by
  unfold loneOf at h
  split at h
  · exact ⟨_, _, rfl⟩
  · cases h
theorem lreads (os : Os) {H : Type} (enc : TypeId × Value → H) : ∃ d places, DataW.whole enc Tryd.prog ((llaidWorld os).forCall (fun _ _ => 0) ⟨#[], #[zeroL], []⟩).memory Tryd.f6.params.toList Rows.fnExactLocalPeersSpec.vars false #[zeroL].toList 8 = some ([d], [], places) :=
  loneOf_some (by kernel_rfl)

set_option maxRecDepth 100000 in
theorem lpeers_lifted (os : Os) (started : os.Started) (H : Type) (enc : TypeId × Value → H) (F : Stop.Interp) :
    ReturnsInHanded {} Tryd.checked os 6 .any ((OpenSpec.ofChange Rows.fnExactLocalPeersSpec).preRow enc Tryd.prog Tryd.f6 Rows.fnExactLocalPeersRow.domain false Rows.fnExactLocalPeersRow.laid) (((OpenSpec.ofChange Rows.fnExactLocalPeersSpec).at F).post enc Tryd.prog Tryd.f6 false true false false) := by
  obtain ⟨d, places, hx⟩ := lreads os enc
  refine returnsInHanded_of_row (C := Tryd.checked) (s := OpenSpec.ofChange Rows.fnExactLocalPeersSpec) Tryd.own started (by kernel_rfl) Tryd.func6
    (witness_row_at (enc := enc) (C := Tryd.checked) false (llaidWorld os) #[zeroL] rfl (by kernel_rfl) (by kernel_rfl) (by kernel_rfl)
      (OpenSpec.preRow_of_cond 8 hx (by kernel_rfl) (fun k hk => by cases hk) (by kernel_rfl) (llaid_met os))) ?_
  intro W base args ds gs before hval0 hW hcnd _ _ hL _ _
  have hval : ∀ (j : Nat) t v, Tryd.f6.params[j]? = some t → args[j]? = some v → Value.okWide Tryd.prog W .any base t v := hval0
  have hW' := hW
  obtain ⟨p, q, hA0, hV, rfl, hfz, hnd⟩ := hW
  have hA : DataW.TrodAll enc Tryd.prog W 0 (fun _ => true) true Tryd.f6.params.toList args.toList ds p := hA0
  rw [Tryd.params6] at hA hval
  obtain ⟨v0, d0, rfl, rfl, h0⟩ := trodAll_one hA
  obtain ⟨k, fr, ix, sv, kids, rfl, w1, -, -, hs⟩ := Lo.open_local (hval 0 ( /- t -/ 44) v0 rfl rfl) h0
  refine (Lo.peers_walk W k ix fr sv kids hs w1).mono fun e W' ⟨he, hb⟩ => ?_
  subst he
  exact ⟨_, rfl, law_post (s := Rows.fnExactLocalPeersSpec) Tryd.laidOut (by kernel_rfl) (by kernel_rfl) Tryd.underlying4 rfl (by cases gs with | nil => rfl | cons => exact hV.elim) hW' hb⟩

theorem lpeers_said : Rows.FnExactLocalPeersSaid :=
  OpenClaim.holds_of_cond 6 Tryd.f6 rfl rfl rfl rfl rfl rfl rfl ⟨rfl, rfl, rfl, rfl, rfl⟩ rfl rfl rfl rfl rfl (by kernel_rfl) Tryd.func6 (by kernel_rfl)
    (of_decide_eq_true (by kernel_rfl)) (by unfold Func.isWrapper; first | (rw [if_pos (by decide +kernel)]; kernel_rfl) | (rw [if_neg (by decide +kernel)]; exact ⟨rfl, rfl⟩))
    (fun os started H enc _ F => by rw [OpenClaim.pre_eq_preRow]; exact lpeers_lifted os started H enc F)

/-- No parameter wants a stand-in; the program's own looks are on. -/
theorem lpeers_plain (f : FuncId) (fn : Func) (hf : Tryd.pinned.checked.prog.funcNamed "loop.example/sessiontypes/laws.FnExactLocalPeers" = some f) (hfn : Tryd.pinned.checked.prog.funcs[f]? = some fn) :
    true = Tryd.pinned.checked.prog.looks [] ∧ ∀ (j : Nat) t, fn.params[j]? = some t → Tryd.pinned.checked.prog.wantsStandIn t = false := by
  obtain rfl : f = 6 := Option.some.inj ((show Tryd.prog.funcNamed "loop.example/sessiontypes/laws.FnExactLocalPeers" = some 6 by kernel_rfl).symm.trans hf) |>.symm
  obtain rfl : fn = Tryd.f6 := (Option.some.inj (Tryd.func6.symm.trans hfn)).symm
  refine ⟨by kernel_rfl, fun j t ht => ?_⟩
  rw [Tryd.params6] at ht
  obtain rfl : t = ( /- t -/ 44) := by simpa using Array.mem_of_getElem? ht
  exact (show Tryd.prog.wantsStandIn ( /- t -/ 44) = false by kernel_rfl)

/-- The card. -/
theorem lpeers_holds : Rows.FnExactLocalPeersCardSaid :=
  Claim7.holds_tied_plain_at .later [] _ _ _ _ lpeers_said (fun _ h => by cases h) (by kernel_rfl) (fun _ h => by cases h) fnExactLocalPeers_row_tie rfl ⟨rfl, rfl⟩ (by kernel_rfl) rfl lpeers_plain (by kernel_rfl)

#print axioms lpeers_holds
end Go.Proofs.YtfppglfajbmapaaDoor
