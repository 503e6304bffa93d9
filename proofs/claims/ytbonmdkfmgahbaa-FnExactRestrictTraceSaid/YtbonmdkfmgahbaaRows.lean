/-
  NARROWER THAN 'FOR EVERY INPUT', by the rows' own cells (each row's printed sentence says how): FnExactMonitorEqual: loops.
  DERIVED. THE GIVEN ROWS OF THIS SEAT. 3 by the template 'for every input the law returns true; each argument reads behind the call as it read before'; 0 by the template 'total and deterministic' (their statements: YtbonmdkfmgahbaaTotals.lean).
  GIVEN WITH THE SEED: the statements are not yours to turn. If you find one false, say at which input.
  Laid BY PROGRAM, IN A SANDBOX (cutbox-rows.mjs): the forced cells as the released guide's own fill.sh prints them over the translation 71c1c697d4d6ebbc… (all of the seat's roots in one cut). By AI agents, Wed Nov 11 2026. No macro, syntax, notation, axiom, sorry.
-/
import Derived.Test.YtbonmdkfmgahbaaChecked
import GoSem.Claim
import GoSem.ClaimJoined
import GoSem.ClaimMapViews
import Derived.JoinedTies
import Derived.KernelRfl
namespace Go.Proofs.Ytbonmdkfmgahbaa
/- THE CELL 'sum', in the pinned program and in every row, IS THE sha256 OF THE DUMP (.gsa) THAT YtbonmdkfmgahbaaProg.lean LOADS. Nothing in Lean hashes anything: it is a label: what it is worth is what the hold of that sum in a sandbox is worth. -/
noncomputable def Try.pinned : Pinned := { name := "ytbonmdkfmgahbaa", sum := "71c1c697d4d6ebbceedb10699f5a14ace9acf83ac69c2cc5df311dbab9f42a4f", checked := Try.checked }
namespace Rows
def none {H : Type} : Left H := { results := [], args := [] }

/-- 'laws.FnExactParseLocal': WHATEVER THE INPUT: true; the input reads as it did. -/
def fnExactParseLocalSpec : ChangeSpec := { name := "fnExactParseLocal", fn := fun _ => fun
  | [d] => { results := [.lit (.bool true)], args := [d] }
  | _ => none }
def fnExactParseLocalRow : OpenClaim := { program := "ytbonmdkfmgahbaa", sum := "71c1c697d4d6ebbceedb10699f5a14ace9acf83ac69c2cc5df311dbab9f42a4f", func := "loop.example/sessiontypes/laws.FnExactParseLocal", spec := "fnExactParseLocal", inPlace := ["internal/bytealg.IndexByteString", "internal/bytealg.IndexString"], unfollowed := true, recurses := true, named := ["internal/bytealg.MaxLen"], plainKeys := false, apart := false }
def FnExactParseLocalSaid : Prop := fnExactParseLocalRow.holds Try.pinned (OpenSpec.ofChange fnExactParseLocalSpec)

/-- ITS FALSE NEIGHBOUR: 'it returns false'. Refute it at one input. -/
def fnExactParseLocalWrong : ChangeSpec := { name := "fnExactParseLocal", fn := fun _ => fun
  | [d] => { results := [.lit (.bool false)], args := [d] }
  | _ => none }
def FnExactParseLocalWrongFalsely : Prop := fnExactParseLocalRow.holds Try.pinned (OpenSpec.ofChange fnExactParseLocalWrong)

/-- 'laws.FnExactRestrictTrace': WHATEVER THE INPUT: true; the input reads as it did. -/
def fnExactRestrictTraceSpec : ChangeSpec := { name := "fnExactRestrictTrace", fn := fun _ => fun
  | [d1, d2] => { results := [.lit (.bool true)], args := [d1, d2] }
  | _ => none }
def fnExactRestrictTraceRow : OpenClaim := { program := "ytbonmdkfmgahbaa", sum := "71c1c697d4d6ebbceedb10699f5a14ace9acf83ac69c2cc5df311dbab9f42a4f", func := "loop.example/sessiontypes/laws.FnExactRestrictTrace", spec := "fnExactRestrictTrace", unfollowed := true, recurses := true, plainKeys := false, apart := false }
def FnExactRestrictTraceSaid : Prop := fnExactRestrictTraceRow.holds Try.pinned (OpenSpec.ofChange fnExactRestrictTraceSpec)

/-- ITS FALSE NEIGHBOUR: 'it returns false'. Refute it at one input. -/
def fnExactRestrictTraceWrong : ChangeSpec := { name := "fnExactRestrictTrace", fn := fun _ => fun
  | [d1, d2] => { results := [.lit (.bool false)], args := [d1, d2] }
  | _ => none }
def FnExactRestrictTraceWrongFalsely : Prop := fnExactRestrictTraceRow.holds Try.pinned (OpenSpec.ofChange fnExactRestrictTraceWrong)

/-- 'laws.FnExactMonitorEqual': WHATEVER THE INPUT: true; the input reads as it did. -/
def fnExactMonitorEqualSpec : ChangeSpec := { name := "fnExactMonitorEqual", fn := fun _ => fun
  | [d1, d2] => { results := [.lit (.bool true)], args := [d1, d2] }
  | _ => none }
def fnExactMonitorEqualRow : OpenClaim := { program := "ytbonmdkfmgahbaa", sum := "71c1c697d4d6ebbceedb10699f5a14ace9acf83ac69c2cc5df311dbab9f42a4f", func := "loop.example/sessiontypes/laws.FnExactMonitorEqual", spec := "fnExactMonitorEqual", unfollowed := true, recurses := true, loops := true, plainKeys := false, apart := false }
def FnExactMonitorEqualSaid : Prop := fnExactMonitorEqualRow.holds Try.pinned (OpenSpec.ofChange fnExactMonitorEqualSpec)

/-- ITS FALSE NEIGHBOUR: 'it returns false'. Refute it at one input. -/
def fnExactMonitorEqualWrong : ChangeSpec := { name := "fnExactMonitorEqual", fn := fun _ => fun
  | [d1, d2] => { results := [.lit (.bool false)], args := [d1, d2] }
  | _ => none }
def FnExactMonitorEqualWrongFalsely : Prop := fnExactMonitorEqualRow.holds Try.pinned (OpenSpec.ofChange fnExactMonitorEqualWrong)

/- THE SECOND FORM. 'bulk': how many values and letters a reading holds, each counted each time it is reached (what is shared counts as often as it is met; a slice's spare places count too). A statement '..UptoSaid' is the law's where the arguments, and the package variables that the reading takes, are together of bulk at most 1048576: NARROWER than '..Said'. Prove '..Said' where nothing that the law and all that it calls make is longer than what came in: it says more and counts as full. Else prove '..UptoSaid'. A law counts once. -/
mutual
def uptoBulk {H : Type} : DataW H → Nat
  | .lit (.string bytes) => bytes.length + 1
  | .lit _ => 1
  | .nil => 1
  | .ptr d => uptoBulk d + 1
  | .slice elems spare => uptoBulkAll elems + uptoBulkAll spare + 1
  | .agg parts => uptoBulkAll parts + 1
  | .iface _ d => uptoBulk d + 1
  | .map entries => uptoBulkEntries entries + 1
  | .held _ => 1
def uptoBulkAll {H : Type} : List (DataW H) → Nat
  | [] => 0
  | d :: r => uptoBulk d + uptoBulkAll r
def uptoBulkEntries {H : Type} : List (Lit × DataW H) → Nat
  | [] => 0
  | x :: r => uptoBulkEntry x + uptoBulkEntries r
def uptoBulkEntry {H : Type} : Lit × DataW H → Nat
  | (.string bytes, d) => bytes.length + uptoBulk d + 1
  | (_, d) => uptoBulk d + 1
 end
def uptoSmall : (H : Type) → List (DataW H) → Bool := fun _ ds => decide (uptoBulkAll ds ≤ 1048576)
def OpenSpec.upto (s : _root_.Go.ChangeSpec) : _root_.Go.OpenSpec := { _root_.Go.OpenSpec.ofChange s with cond := some uptoSmall }

/-- 'laws.FnExactParseLocal', WHERE WHAT IT READS IS OF BULK AT MOST 1048576: true; the input reads as it did. -/
def fnExactParseLocalUptoRow : OpenClaim := { program := "ytbonmdkfmgahbaa", sum := "71c1c697d4d6ebbceedb10699f5a14ace9acf83ac69c2cc5df311dbab9f42a4f", func := "loop.example/sessiontypes/laws.FnExactParseLocal", spec := "fnExactParseLocal", inPlace := ["internal/bytealg.IndexByteString", "internal/bytealg.IndexString"], unfollowed := true, recurses := true, named := ["internal/bytealg.MaxLen"], plainKeys := false, apart := false, narrowed := true }
def FnExactParseLocalUptoSaid : Prop := fnExactParseLocalUptoRow.holds Try.pinned (OpenSpec.upto fnExactParseLocalSpec)

/-- 'laws.FnExactRestrictTrace', WHERE WHAT IT READS IS OF BULK AT MOST 1048576: true; the input reads as it did. -/
def fnExactRestrictTraceUptoRow : OpenClaim := { program := "ytbonmdkfmgahbaa", sum := "71c1c697d4d6ebbceedb10699f5a14ace9acf83ac69c2cc5df311dbab9f42a4f", func := "loop.example/sessiontypes/laws.FnExactRestrictTrace", spec := "fnExactRestrictTrace", unfollowed := true, recurses := true, plainKeys := false, apart := false, narrowed := true }
def FnExactRestrictTraceUptoSaid : Prop := fnExactRestrictTraceUptoRow.holds Try.pinned (OpenSpec.upto fnExactRestrictTraceSpec)

/-- 'laws.FnExactMonitorEqual', WHERE WHAT IT READS IS OF BULK AT MOST 1048576: true; the input reads as it did. -/
def fnExactMonitorEqualUptoRow : OpenClaim := { program := "ytbonmdkfmgahbaa", sum := "71c1c697d4d6ebbceedb10699f5a14ace9acf83ac69c2cc5df311dbab9f42a4f", func := "loop.example/sessiontypes/laws.FnExactMonitorEqual", spec := "fnExactMonitorEqual", unfollowed := true, recurses := true, loops := true, plainKeys := false, apart := false, narrowed := true }
def FnExactMonitorEqualUptoSaid : Prop := fnExactMonitorEqualUptoRow.holds Try.pinned (OpenSpec.upto fnExactMonitorEqualSpec)

end Rows
end Go.Proofs.Ytbonmdkfmgahbaa
