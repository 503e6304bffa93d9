/-
  NARROWER THAN 'FOR EVERY INPUT', by the rows' own cells (each row's printed sentence says how): FnExactNetworkEqual: loops.
  DERIVED. THE GIVEN ROWS OF THIS SEAT. 5 by the template 'for every input the law returns true; each argument reads behind the call as it read before'; 0 by the template 'total and deterministic' (their statements: YtodhgpjcklhboaaTotals.lean).
  GIVEN WITH THE SEED: the statements are not yours to turn. If you find one false, say at which input.
  Laid BY PROGRAM, IN A SANDBOX (cutbox-rows.mjs): the forced cells as the released guide's own fill.sh prints them over the translation 6936c3ef458db4e3… (all of the seat's roots in one cut). By AI agents, Wed Nov 11 2026. No macro, syntax, notation, axiom, sorry.
-/
import Derived.Test.YtodhgpjcklhboaaChecked
import GoSem.Claim
import GoSem.ClaimJoined
import GoSem.ClaimMapViews
import Derived.JoinedTies
import Derived.KernelRfl
namespace Go.Proofs.Ytodhgpjcklhboaa
/- THE CELL 'sum', in the pinned program and in every row, IS THE sha256 OF THE DUMP (.gsa) THAT YtodhgpjcklhboaaProg.lean LOADS. Nothing in Lean hashes anything: it is a label: what it is worth is what the hold of that sum in a sandbox is worth. -/
noncomputable def Try.pinned : Pinned := { name := "ytodhgpjcklhboaa", sum := "6936c3ef458db4e32290b3e983328dab8e0fa0e679d8d72df7e8afeb2ffd03b7", checked := Try.checked }
namespace Rows
def none {H : Type} : Left H := { results := [], args := [] }

/-- 'laws.FnExactParseGlobal': WHATEVER THE INPUT: true; the input reads as it did. -/
def fnExactParseGlobalSpec : ChangeSpec := { name := "fnExactParseGlobal", fn := fun _ => fun
  | [d] => { results := [.lit (.bool true)], args := [d] }
  | _ => none }
def fnExactParseGlobalRow : OpenClaim := { program := "ytodhgpjcklhboaa", sum := "6936c3ef458db4e32290b3e983328dab8e0fa0e679d8d72df7e8afeb2ffd03b7", func := "loop.example/sessiontypes/laws.FnExactParseGlobal", spec := "fnExactParseGlobal", inPlace := ["internal/bytealg.IndexByteString", "internal/bytealg.IndexString"], unfollowed := true, recurses := true, named := ["internal/bytealg.MaxLen"], plainKeys := false, apart := false }
def FnExactParseGlobalSaid : Prop := fnExactParseGlobalRow.holds Try.pinned (OpenSpec.ofChange fnExactParseGlobalSpec)

/-- ITS FALSE NEIGHBOUR: 'it returns false'. Refute it at one input. -/
def fnExactParseGlobalWrong : ChangeSpec := { name := "fnExactParseGlobal", fn := fun _ => fun
  | [d] => { results := [.lit (.bool false)], args := [d] }
  | _ => none }
def FnExactParseGlobalWrongFalsely : Prop := fnExactParseGlobalRow.holds Try.pinned (OpenSpec.ofChange fnExactParseGlobalWrong)

/-- 'laws.FnExactParseLocal': WHATEVER THE INPUT: true; the input reads as it did. -/
def fnExactParseLocalSpec : ChangeSpec := { name := "fnExactParseLocal", fn := fun _ => fun
  | [d] => { results := [.lit (.bool true)], args := [d] }
  | _ => none }
def fnExactParseLocalRow : OpenClaim := { program := "ytodhgpjcklhboaa", sum := "6936c3ef458db4e32290b3e983328dab8e0fa0e679d8d72df7e8afeb2ffd03b7", func := "loop.example/sessiontypes/laws.FnExactParseLocal", spec := "fnExactParseLocal", inPlace := ["internal/bytealg.IndexByteString", "internal/bytealg.IndexString"], unfollowed := true, recurses := true, named := ["internal/bytealg.MaxLen"], plainKeys := false, apart := false }
def FnExactParseLocalSaid : Prop := fnExactParseLocalRow.holds Try.pinned (OpenSpec.ofChange fnExactParseLocalSpec)

/-- ITS FALSE NEIGHBOUR: 'it returns false'. Refute it at one input. -/
def fnExactParseLocalWrong : ChangeSpec := { name := "fnExactParseLocal", fn := fun _ => fun
  | [d] => { results := [.lit (.bool false)], args := [d] }
  | _ => none }
def FnExactParseLocalWrongFalsely : Prop := fnExactParseLocalRow.holds Try.pinned (OpenSpec.ofChange fnExactParseLocalWrong)

/-- 'laws.FnExactNetworkEqual': WHATEVER THE INPUT: true; the input reads as it did. -/
def fnExactNetworkEqualSpec : ChangeSpec := { name := "fnExactNetworkEqual", fn := fun _ => fun
  | [d1, d2] => { results := [.lit (.bool true)], args := [d1, d2] }
  | _ => none }
def fnExactNetworkEqualRow : OpenClaim := { program := "ytodhgpjcklhboaa", sum := "6936c3ef458db4e32290b3e983328dab8e0fa0e679d8d72df7e8afeb2ffd03b7", func := "loop.example/sessiontypes/laws.FnExactNetworkEqual", spec := "fnExactNetworkEqual", unfollowed := true, recurses := true, loops := true, plainKeys := false, apart := false }
def FnExactNetworkEqualSaid : Prop := fnExactNetworkEqualRow.holds Try.pinned (OpenSpec.ofChange fnExactNetworkEqualSpec)

/-- ITS FALSE NEIGHBOUR: 'it returns false'. Refute it at one input. -/
def fnExactNetworkEqualWrong : ChangeSpec := { name := "fnExactNetworkEqual", fn := fun _ => fun
  | [d1, d2] => { results := [.lit (.bool false)], args := [d1, d2] }
  | _ => none }
def FnExactNetworkEqualWrongFalsely : Prop := fnExactNetworkEqualRow.holds Try.pinned (OpenSpec.ofChange fnExactNetworkEqualWrong)

/-- 'laws.FnExactFormatTrace': WHATEVER THE INPUT: true; the input reads as it did. -/
def fnExactFormatTraceSpec : ChangeSpec := { name := "fnExactFormatTrace", fn := fun _ => fun
  | [d] => { results := [.lit (.bool true)], args := [d] }
  | _ => none }
def fnExactFormatTraceRow : OpenClaim := { program := "ytodhgpjcklhboaa", sum := "6936c3ef458db4e32290b3e983328dab8e0fa0e679d8d72df7e8afeb2ffd03b7", func := "loop.example/sessiontypes/laws.FnExactFormatTrace", spec := "fnExactFormatTrace", inPlace := ["internal/bytealg.IndexByteString", "internal/bytealg.IndexString", "internal/abi.NoEscape"], named := ["internal/bytealg.MaxLen"], plainKeys := false, apart := false }
def FnExactFormatTraceSaid : Prop := fnExactFormatTraceRow.holds Try.pinned (OpenSpec.ofChange fnExactFormatTraceSpec)

/-- ITS FALSE NEIGHBOUR: 'it returns false'. Refute it at one input. -/
def fnExactFormatTraceWrong : ChangeSpec := { name := "fnExactFormatTrace", fn := fun _ => fun
  | [d] => { results := [.lit (.bool false)], args := [d] }
  | _ => none }
def FnExactFormatTraceWrongFalsely : Prop := fnExactFormatTraceRow.holds Try.pinned (OpenSpec.ofChange fnExactFormatTraceWrong)

/-- 'laws.FnExactParseTrace': WHATEVER THE INPUT: true; the input reads as it did. -/
def fnExactParseTraceSpec : ChangeSpec := { name := "fnExactParseTrace", fn := fun _ => fun
  | [d] => { results := [.lit (.bool true)], args := [d] }
  | _ => none }
def fnExactParseTraceRow : OpenClaim := { program := "ytodhgpjcklhboaa", sum := "6936c3ef458db4e32290b3e983328dab8e0fa0e679d8d72df7e8afeb2ffd03b7", func := "loop.example/sessiontypes/laws.FnExactParseTrace", spec := "fnExactParseTrace", inPlace := ["internal/bytealg.IndexByteString", "internal/bytealg.IndexString"], named := ["internal/bytealg.MaxLen"], plainKeys := false, apart := false }
def FnExactParseTraceSaid : Prop := fnExactParseTraceRow.holds Try.pinned (OpenSpec.ofChange fnExactParseTraceSpec)

/-- ITS FALSE NEIGHBOUR: 'it returns false'. Refute it at one input. -/
def fnExactParseTraceWrong : ChangeSpec := { name := "fnExactParseTrace", fn := fun _ => fun
  | [d] => { results := [.lit (.bool false)], args := [d] }
  | _ => none }
def FnExactParseTraceWrongFalsely : Prop := fnExactParseTraceRow.holds Try.pinned (OpenSpec.ofChange fnExactParseTraceWrong)

/- THE SECOND FORM. 'bulk': how many values and letters a reading holds, each counted each time it is reached (what is shared counts as often as it is met; a slice's spare places count too). A statement '..UptoSaid' is the law's where the arguments, and the package variables that the reading takes, are together of bulk at most 1048576: NARROWER than '..Said'. Prove '..Said' where nothing that the law and all that it calls make is longer than what came in: it says more and counts as full. Else prove '..UptoSaid'. A law counts once. -/
mutual
def uptoBulk {H : Type} : DataW H → Nat
  | .lit (.string bytes) => bytes.length + 1
  | .lit _ => 1
  | .nil => 1
  | .ptr d => uptoBulk d + 1
  | .slice elems spare => uptoBulkAll elems + uptoBulkAll spare + 1
  | .agg parts => uptoBulkAll parts + 1
  | .iface _ d => uptoBulk d + 1
  | .map entries => uptoBulkEntries entries + 1
  | .held _ => 1
def uptoBulkAll {H : Type} : List (DataW H) → Nat
  | [] => 0
  | d :: r => uptoBulk d + uptoBulkAll r
def uptoBulkEntries {H : Type} : List (Lit × DataW H) → Nat
  | [] => 0
  | x :: r => uptoBulkEntry x + uptoBulkEntries r
def uptoBulkEntry {H : Type} : Lit × DataW H → Nat
  | (.string bytes, d) => bytes.length + uptoBulk d + 1
  | (_, d) => uptoBulk d + 1
 end
def uptoSmall : (H : Type) → List (DataW H) → Bool := fun _ ds => decide (uptoBulkAll ds ≤ 1048576)
def OpenSpec.upto (s : _root_.Go.ChangeSpec) : _root_.Go.OpenSpec := { _root_.Go.OpenSpec.ofChange s with cond := some uptoSmall }

/-- 'laws.FnExactParseGlobal', WHERE WHAT IT READS IS OF BULK AT MOST 1048576: true; the input reads as it did. -/
def fnExactParseGlobalUptoRow : OpenClaim := { program := "ytodhgpjcklhboaa", sum := "6936c3ef458db4e32290b3e983328dab8e0fa0e679d8d72df7e8afeb2ffd03b7", func := "loop.example/sessiontypes/laws.FnExactParseGlobal", spec := "fnExactParseGlobal", inPlace := ["internal/bytealg.IndexByteString", "internal/bytealg.IndexString"], unfollowed := true, recurses := true, named := ["internal/bytealg.MaxLen"], plainKeys := false, apart := false, narrowed := true }
def FnExactParseGlobalUptoSaid : Prop := fnExactParseGlobalUptoRow.holds Try.pinned (OpenSpec.upto fnExactParseGlobalSpec)

/-- 'laws.FnExactParseLocal', WHERE WHAT IT READS IS OF BULK AT MOST 1048576: true; the input reads as it did. -/
def fnExactParseLocalUptoRow : OpenClaim := { program := "ytodhgpjcklhboaa", sum := "6936c3ef458db4e32290b3e983328dab8e0fa0e679d8d72df7e8afeb2ffd03b7", func := "loop.example/sessiontypes/laws.FnExactParseLocal", spec := "fnExactParseLocal", inPlace := ["internal/bytealg.IndexByteString", "internal/bytealg.IndexString"], unfollowed := true, recurses := true, named := ["internal/bytealg.MaxLen"], plainKeys := false, apart := false, narrowed := true }
def FnExactParseLocalUptoSaid : Prop := fnExactParseLocalUptoRow.holds Try.pinned (OpenSpec.upto fnExactParseLocalSpec)

/-- 'laws.FnExactNetworkEqual', WHERE WHAT IT READS IS OF BULK AT MOST 1048576: true; the input reads as it did. -/
def fnExactNetworkEqualUptoRow : OpenClaim := { program := "ytodhgpjcklhboaa", sum := "6936c3ef458db4e32290b3e983328dab8e0fa0e679d8d72df7e8afeb2ffd03b7", func := "loop.example/sessiontypes/laws.FnExactNetworkEqual", spec := "fnExactNetworkEqual", unfollowed := true, recurses := true, loops := true, plainKeys := false, apart := false, narrowed := true }
def FnExactNetworkEqualUptoSaid : Prop := fnExactNetworkEqualUptoRow.holds Try.pinned (OpenSpec.upto fnExactNetworkEqualSpec)

/-- 'laws.FnExactFormatTrace', WHERE WHAT IT READS IS OF BULK AT MOST 1048576: true; the input reads as it did. -/
def fnExactFormatTraceUptoRow : OpenClaim := { program := "ytodhgpjcklhboaa", sum := "6936c3ef458db4e32290b3e983328dab8e0fa0e679d8d72df7e8afeb2ffd03b7", func := "loop.example/sessiontypes/laws.FnExactFormatTrace", spec := "fnExactFormatTrace", inPlace := ["internal/bytealg.IndexByteString", "internal/bytealg.IndexString", "internal/abi.NoEscape"], named := ["internal/bytealg.MaxLen"], plainKeys := false, apart := false, narrowed := true }
def FnExactFormatTraceUptoSaid : Prop := fnExactFormatTraceUptoRow.holds Try.pinned (OpenSpec.upto fnExactFormatTraceSpec)

/-- 'laws.FnExactParseTrace', WHERE WHAT IT READS IS OF BULK AT MOST 1048576: true; the input reads as it did. -/
def fnExactParseTraceUptoRow : OpenClaim := { program := "ytodhgpjcklhboaa", sum := "6936c3ef458db4e32290b3e983328dab8e0fa0e679d8d72df7e8afeb2ffd03b7", func := "loop.example/sessiontypes/laws.FnExactParseTrace", spec := "fnExactParseTrace", inPlace := ["internal/bytealg.IndexByteString", "internal/bytealg.IndexString"], named := ["internal/bytealg.MaxLen"], plainKeys := false, apart := false, narrowed := true }
def FnExactParseTraceUptoSaid : Prop := fnExactParseTraceUptoRow.holds Try.pinned (OpenSpec.upto fnExactParseTraceSpec)

end Rows
end Go.Proofs.Ytodhgpjcklhboaa
