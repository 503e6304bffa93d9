/- Observe answers, for every Monitor and every Action, as the model does, leaves its arguments as they were, and its answer owns its memory: the law FnExactObserve returns true; its tied card. No condition. -/
import Derived.Test.YtgcefippeokmcabGreatDoorCards
import Derived.Test.YtgcefippeokmcabGreatDoorTie
import Derived.Test.YtgcefippeokmcabGreatDoorG09
import Derived.ChangeArms
import Derived.WalkKit
import Derived.ProofKit
import Derived.OpenShut
import Derived.Deep.DeepHandedRow
import Derived.Lib.LaidTab
import Derived.LaidMore
import Derived.Deep.DeepWitnessRowRef
import Derived.OpenVars
import Derived.Stop.LaidErr
namespace Go.Proofs.YtgcefippeokmcabGreatDoor
open Go.ChangeShapes Go.WideShapes Go.ChangeAt Go.RowKit
open Go.ChangeMaps (open_string)

/-- A law that returned true, at a row that names variables: below the old heap's size nothing has turned. -/
theorem law_postV {H : Type} {enc : TypeId × Value → H} {P : Program} {f : Func} {s : ChangeSpec} {W W' : World} {args : Array Value} {ds gs : List (DataW H)} {before : List MemPlace} {tb : TypeId} (hl : laidOutB P = true)
    (hp : (f.params.toList.all fun t => P.readableRec t && decide (t < P.types.size)) = true) (hrt : f.resultTypes = #[tb]) (htb : P.underlying tb = some .bool)
    (hfn : s.fn H (ds ++ gs) = { results := [.lit (.bool true)], args := ds, vars := gs }) (hW : DataW.Whole enc P f.params.toList s.vars false W args.toList ds gs before) (hb : Below W.heap.size W W')
    (hvr : ∀ q, DataW.TrodVars enc P W (fun _ => true) s.vars gs q → ∃ q', DataW.TrodVars enc P W' (fun b => decide (b < W.heap.size)) s.vars gs q') :
    s.post enc P f false true false false W args (.bool true) W' := by
  have hlt : ∀ p ∈ before, p.block < W.heap.size := fun p hp => hW.lt p hp
  have hW2 := hW
  obtain ⟨p, q, hA, hV, rfl, _, _⟩ := hW2
  obtain ⟨q', hV'⟩ := hvr q hV
  refine ⟨ds, gs, p ++ q, [], p, q', hW, ?_, ?_, ?_, hb.frame _, fun h => by cases h⟩
  · rw [hfn, hrt]
    exact trodAll_mk1 (shut_bool htb true)
  · rw [hfn]
    exact trodAll_below hl hb _ _ _ _ hp hA (fun x hx => hlt x (List.mem_append_left _ hx))
  · rw [hfn]
    exact hV'
/-- What the row's list says of the two errors. -/
theorem ob_errors {W : World} (h : laidMetH Tryz.prog Rows.fnExactObserveRow.laid W) : ∃ T1 v1 T2 v2, W.var? Tryz.prog "loop.example/sessiontypes/impl.errInvalidAfter" = some #[.iface T1 v1] ∧ W.var? Tryz.prog "loop.example/sessiontypes/impl.errNotPermitted" = some #[.iface T2 v2] := by
  rw [MakeChecks.laidMetH_plain _ _ _ (by kernel_rfl)] at h
  have h2 : laidMet Tryz.prog [("loop.example/sessiontypes/impl.errNotPermitted", Rows.laid_loop_example_sessiontypes_impl_errNotPermitted), ("loop.example/sessiontypes/impl.errInvalidAfter", Rows.laid_loop_example_sessiontypes_impl_errInvalidAfter)] W := h.tail.tail.tail
  obtain ⟨ps, ⟨g0, t0, cs0, f0, p0, q0, hg0, ht0, hv0, hd0, ⟨g1, t1, cs1, f1, p1, q1, hg1, ht1, hv1, hd1, -, -⟩, -⟩, -, -⟩ := h2
  obtain rfl := Option.some.inj ((show Tryz.prog.globalNamed "loop.example/sessiontypes/impl.errNotPermitted" = some 1 by kernel_rfl).symm.trans hg0)
  obtain rfl := Option.some.inj ((show Tryz.prog.globalNamed "loop.example/sessiontypes/impl.errInvalidAfter" = some 0 by kernel_rfl).symm.trans hg1)
  obtain rfl := Option.some.inj ((show (Tryz.prog.globals[1]?).map (·.type) = some ( /- t -/ 56) by kernel_rfl).symm.trans ht0)
  obtain rfl := Option.some.inj ((show (Tryz.prog.globals[0]?).map (·.type) = some ( /- t -/ 56) by kernel_rfl).symm.trans ht1)
  obtain ⟨l0⟩ := cs0
  obtain ⟨l1⟩ := cs1
  obtain ⟨-, u0, v0, rfl, -, -⟩ := iface_of_trod Tryz.underlying56 hd0
  obtain ⟨-, u1, v1, rfl, -, -⟩ := iface_of_trod Tryz.underlying56 hd1
  exact ⟨u1, v1, u0, v0, hv1, hv0⟩

def obM : Value := .agg #[.string ⟨#[]⟩, .int .i64 0, .string ⟨#[]⟩, .int .i64 0, .slice none 0 0]
def obA : Value := .agg #[.string ⟨#[]⟩, .bool false, .string ⟨#[]⟩, .string ⟨#[]⟩]
/-- The heap that the program's own initialisers leave: the witness. -/
noncomputable def obWorld (os : Os) : World := World.doorLaid Tryz.prog 72 os
theorem obs_met (os : Os) : laidMetH Tryz.prog Rows.fnExactObserveRow.laid ((obWorld os).forCall (fun _ _ => 0) ⟨#[], #[obM, obA], []⟩).memory :=
  laidMetH_of_parts3 (fuel := 8) (laidMet_of_run' 8 (by kernel_rfl) (by kernel_rfl)) (by kernel_rfl) (by kernel_rfl)
/-- Two data were read, and two variables. -/
def obOf {H : Type} : Option (List (DataW H) × List (DataW H) × List MemPlace) → Bool
  | some ([_, _], [_, _], _) => true
  | _ => false
theorem obOf_some {H : Type} {x : Option (List (DataW H) × List (DataW H) × List MemPlace)} (h : obOf x = true) : ∃ d d2 g g2 places, x = some ([d, d2], [g, g2], places) := by
  unfold obOf at h
  split at h
  · exact ⟨_, _, _, _, _, rfl⟩
  · cases h
theorem obReads (os : Os) {H : Type} (enc : TypeId × Value → H) : ∃ d d2 g g2 places, DataW.whole enc Tryz.prog ((obWorld os).forCall (fun _ _ => 0) ⟨#[], #[obM, obA], []⟩).memory Tryz.f3.params.toList Rows.fnExactObserveSpec.vars false #[obM, obA].toList 8 = some ([d, d2], [g, g2], places) :=
  obOf_some (by kernel_rfl)

set_option maxRecDepth 100000 in
theorem obs_lifted (os : Os) (started : os.Started) (H : Type) (enc : TypeId × Value → H) (F : Stop.Interp) :
    ReturnsInHanded {} Tryz.checked os 3 .any ((OpenSpec.ofChange Rows.fnExactObserveSpec).preRow enc Tryz.prog Tryz.f3 Rows.fnExactObserveRow.domain false Rows.fnExactObserveRow.laid) (((OpenSpec.ofChange Rows.fnExactObserveSpec).at F).post enc Tryz.prog Tryz.f3 false true false false) := by
  obtain ⟨d, d2, g, g2, places, hx⟩ := obReads os enc
  refine returnsInHanded_of_row (C := Tryz.checked) (s := OpenSpec.ofChange Rows.fnExactObserveSpec) Tryz.own started (by kernel_rfl) Tryz.func3
    (witness_row_atRef (enc := enc) (C := Tryz.checked) false (obWorld os) #[obM, obA] rfl (by kernel_rfl) (by kernel_rfl) (by kernel_rfl)
      (OpenSpec.preRow_of_cond 8 hx (by kernel_rfl) (fun k hk => by cases hk) (by kernel_rfl) (obs_met os))) ?_
  intro W base args ds gs before hval0 hW hcnd _ _ hL _ _
  have hval : ∀ (j : Nat) t v, Tryz.f3.params[j]? = some t → args[j]? = some v → Value.okWide Tryz.prog W .any base t v := hval0
  have hW' := hW
  obtain ⟨p, q, hA0, hV, rfl, hfz, hnd⟩ := hW
  have hA : DataW.TrodAll enc Tryz.prog W 0 (fun _ => true) true Tryz.f3.params.toList args.toList ds p := hA0
  rw [Tryz.params3] at hA hval
  obtain ⟨v0, v1, d0, d1, p0, p1, rfl, rfl, rfl, h0, h1⟩ := trodAll_two hA
  obtain ⟨m, sv, rfl, hs, hf⟩ := Lo.Ne.open_monitor (hval 0 ( /- t -/ 26) v0 rfl rfl) h0
  obtain ⟨cs, rfl, -⟩ := okWide_struct Tryz.underlying28 (hval 1 ( /- t -/ 28) v1 rfl rfl)
  obtain ⟨fuel, hfl⟩ := h1
  obtain ⟨lc⟩ := cs
  obtain ⟨r, pe, la, rc, e, k1, k2, k3⟩ := Lo.Ne.open_action hfl
  obtain rfl : lc = [.string r, .bool rc, .string pe, .string la] := e
  obtain ⟨T1, u1, T2, u2, c1, c2⟩ := ob_errors hL
  have he1 : W.cell? ⟨0, 0, none⟩ = some (.iface T1 u1) := by simpa using World.var?_cell (show Tryz.prog.globalNamed "loop.example/sessiontypes/impl.errInvalidAfter" = some 0 by kernel_rfl) c1 0
  have he2 : W.cell? ⟨1, 0, none⟩ = some (.iface T2 u2) := by simpa using World.var?_cell (show Tryz.prog.globalNamed "loop.example/sessiontypes/impl.errNotPermitted" = some 1 by kernel_rfl) c2 0
  obtain ⟨g0, t0, cs0, f0, e0, p0, g1, t1, cs1, f1, e1, p1, rfl, -⟩ := trodVars_two hV
  refine (Lo.ob_walk W m ⟨r, rc, pe, la⟩ sv hs hf ⟨k1, k2, k3⟩ T1 T2 u1 u2 he1 he2).mono fun e W' ⟨he, hb⟩ => ?_
  subst he
  exact ⟨_, rfl, law_postV (s := Rows.fnExactObserveSpec) Tryz.laidOut (by kernel_rfl) (by kernel_rfl) Tryz.underlying4 rfl hW' hb (fun q hq => ⟨q, Below.trodVars Tryz.laidOut hb (by kernel_rfl) hq⟩)⟩

theorem obs_said : Rows.FnExactObserveSaid :=
  OpenClaim.holds_of_cond 3 Tryz.f3 rfl rfl rfl rfl rfl rfl rfl ⟨rfl, rfl, rfl, rfl, rfl⟩ rfl rfl rfl rfl rfl (by kernel_rfl) Tryz.func3 (by kernel_rfl)
    (of_decide_eq_true (by kernel_rfl)) (by unfold Func.isWrapper; first | (rw [if_pos (by decide +kernel)]; kernel_rfl) | (rw [if_neg (by decide +kernel)]; exact ⟨rfl, rfl⟩))
    (fun os started H enc _ F => by rw [OpenClaim.pre_eq_preRow]; exact obs_lifted os started H enc F)

/-- No parameter wants a stand-in; the program's own looks are on. -/
theorem obs_plain (f : FuncId) (fn : Func) (hf : Tryz.pinned.checked.prog.funcNamed "loop.example/sessiontypes/laws.FnExactObserve" = some f) (hfn : Tryz.pinned.checked.prog.funcs[f]? = some fn) :
    true = Tryz.pinned.checked.prog.looks [] ∧ ∀ (j : Nat) t, fn.params[j]? = some t → Tryz.pinned.checked.prog.wantsStandIn t = false := by
  obtain rfl : f = 3 := Option.some.inj ((show Tryz.prog.funcNamed "loop.example/sessiontypes/laws.FnExactObserve" = some 3 by kernel_rfl).symm.trans hf) |>.symm
  obtain rfl : fn = Tryz.f3 := (Option.some.inj (Tryz.func3.symm.trans hfn)).symm
  refine ⟨by kernel_rfl, fun j t ht => ?_⟩
  rw [Tryz.params3] at ht
  have hm := Array.mem_of_getElem? ht
  simp only [List.mem_toArray, List.mem_cons, List.not_mem_nil, or_false] at hm
  rcases hm with rfl | rfl
  · exact (show Tryz.prog.wantsStandIn ( /- t -/ 26) = false by kernel_rfl)
  · exact (show Tryz.prog.wantsStandIn ( /- t -/ 28) = false by kernel_rfl)

/-- The card. -/
theorem obs_holds : Rows.FnExactObserveCardSaid :=
  Claim7.holds_tied_plain_at .later [] _ _ _ _ obs_said (fun _ h => by cases h) (by kernel_rfl) (fun _ h => by cases h) fnExactObserve_row_tie rfl ⟨rfl, rfl⟩ (by kernel_rfl) rfl obs_plain (by kernel_rfl)

#print axioms obs_holds
end Go.Proofs.YtgcefippeokmcabGreatDoor
