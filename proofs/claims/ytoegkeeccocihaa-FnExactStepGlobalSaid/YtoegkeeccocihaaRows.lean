/-
  NARROWER THAN 'FOR EVERY INPUT', by the rows' own cells (each row's printed sentence says how): FnExactUnfoldGlobal: loops · FnExactStepGlobal: loops · FnExactUnfoldLocal: loops · FnExactStepLocal: loops · FnExactLocalEquivalent: loops · FnExactIsSubtype: loops.
  DERIVED. THE GIVEN ROWS OF THIS SEAT. 8 by the template 'for every input the law returns true; each argument reads behind the call as it read before'; 0 by the template 'total and deterministic' (their statements: YtoegkeeccocihaaTotals.lean).
  GIVEN WITH THE SEED: the statements are not yours to turn. If you find one false, say at which input.
  Laid BY PROGRAM, IN A SANDBOX (cutbox-rows.mjs): the forced cells as the released guide's own fill.sh prints them over the translation 81f7d7d983911adf… (all of the seat's roots in one cut). By AI agents, Wed Nov 11 2026. No macro, syntax, notation, axiom, sorry.
-/
import Derived.Test.YtoegkeeccocihaaChecked
import GoSem.Claim
import GoSem.ClaimJoined
import GoSem.ClaimMapViews
import Derived.JoinedTies
import Derived.KernelRfl
namespace Go.Proofs.Ytoegkeeccocihaa
/- THE CELL 'sum', in the pinned program and in every row, IS THE sha256 OF THE DUMP (.gsa) THAT YtoegkeeccocihaaProg.lean LOADS. Nothing in Lean hashes anything: it is a label: what it is worth is what the hold of that sum in a sandbox is worth. -/
noncomputable def Try.pinned : Pinned := { name := "ytoegkeeccocihaa", sum := "81f7d7d983911adf6da2bace22b7b781393b7728cff299685dc7733cd8ea8b74", checked := Try.checked }
namespace Rows
def none {H : Type} : Left H := { results := [], args := [] }

/-- 'laws.FnExactUnfoldGlobal': WHATEVER THE INPUT: true; the input reads as it did. -/
def fnExactUnfoldGlobalSpec : ChangeSpec := { name := "fnExactUnfoldGlobal", fn := fun _ => fun
  | [d] => { results := [.lit (.bool true)], args := [d] }
  | _ => none }
def fnExactUnfoldGlobalRow : OpenClaim := { program := "ytoegkeeccocihaa", sum := "81f7d7d983911adf6da2bace22b7b781393b7728cff299685dc7733cd8ea8b74", func := "loop.example/sessiontypes/laws.FnExactUnfoldGlobal", spec := "fnExactUnfoldGlobal", inPlace := ["internal/bytealg.IndexByteString", "internal/bytealg.IndexString"], unfollowed := true, recurses := true, named := ["internal/bytealg.MaxLen"], loops := true, plainKeys := false, apart := false }
def FnExactUnfoldGlobalSaid : Prop := fnExactUnfoldGlobalRow.holds Try.pinned (OpenSpec.ofChange fnExactUnfoldGlobalSpec)

/-- ITS FALSE NEIGHBOUR: 'it returns false'. Refute it at one input. -/
def fnExactUnfoldGlobalWrong : ChangeSpec := { name := "fnExactUnfoldGlobal", fn := fun _ => fun
  | [d] => { results := [.lit (.bool false)], args := [d] }
  | _ => none }
def FnExactUnfoldGlobalWrongFalsely : Prop := fnExactUnfoldGlobalRow.holds Try.pinned (OpenSpec.ofChange fnExactUnfoldGlobalWrong)

/-- 'laws.FnExactStepGlobal': WHATEVER THE INPUT: true; the input reads as it did. -/
def fnExactStepGlobalSpec : ChangeSpec := { name := "fnExactStepGlobal", fn := fun _ => fun
  | [d1, d2] => { results := [.lit (.bool true)], args := [d1, d2] }
  | _ => none }
def fnExactStepGlobalRow : OpenClaim := { program := "ytoegkeeccocihaa", sum := "81f7d7d983911adf6da2bace22b7b781393b7728cff299685dc7733cd8ea8b74", func := "loop.example/sessiontypes/laws.FnExactStepGlobal", spec := "fnExactStepGlobal", inPlace := ["internal/bytealg.IndexByteString", "internal/bytealg.IndexString"], unfollowed := true, recurses := true, named := ["internal/bytealg.MaxLen"], loops := true, plainKeys := false, apart := false }
def FnExactStepGlobalSaid : Prop := fnExactStepGlobalRow.holds Try.pinned (OpenSpec.ofChange fnExactStepGlobalSpec)

/-- ITS FALSE NEIGHBOUR: 'it returns false'. Refute it at one input. -/
def fnExactStepGlobalWrong : ChangeSpec := { name := "fnExactStepGlobal", fn := fun _ => fun
  | [d1, d2] => { results := [.lit (.bool false)], args := [d1, d2] }
  | _ => none }
def FnExactStepGlobalWrongFalsely : Prop := fnExactStepGlobalRow.holds Try.pinned (OpenSpec.ofChange fnExactStepGlobalWrong)

/-- 'laws.FnExactParseGlobal': WHATEVER THE INPUT: true; the input reads as it did. -/
def fnExactParseGlobalSpec : ChangeSpec := { name := "fnExactParseGlobal", fn := fun _ => fun
  | [d] => { results := [.lit (.bool true)], args := [d] }
  | _ => none }
def fnExactParseGlobalRow : OpenClaim := { program := "ytoegkeeccocihaa", sum := "81f7d7d983911adf6da2bace22b7b781393b7728cff299685dc7733cd8ea8b74", func := "loop.example/sessiontypes/laws.FnExactParseGlobal", spec := "fnExactParseGlobal", inPlace := ["internal/bytealg.IndexByteString", "internal/bytealg.IndexString"], unfollowed := true, recurses := true, named := ["internal/bytealg.MaxLen"], plainKeys := false, apart := false }
def FnExactParseGlobalSaid : Prop := fnExactParseGlobalRow.holds Try.pinned (OpenSpec.ofChange fnExactParseGlobalSpec)

/-- ITS FALSE NEIGHBOUR: 'it returns false'. Refute it at one input. -/
def fnExactParseGlobalWrong : ChangeSpec := { name := "fnExactParseGlobal", fn := fun _ => fun
  | [d] => { results := [.lit (.bool false)], args := [d] }
  | _ => none }
def FnExactParseGlobalWrongFalsely : Prop := fnExactParseGlobalRow.holds Try.pinned (OpenSpec.ofChange fnExactParseGlobalWrong)

/-- 'laws.FnExactUnfoldLocal': WHATEVER THE INPUT: true; the input reads as it did. -/
def fnExactUnfoldLocalSpec : ChangeSpec := { name := "fnExactUnfoldLocal", fn := fun _ => fun
  | [d] => { results := [.lit (.bool true)], args := [d] }
  | _ => none }
def fnExactUnfoldLocalRow : OpenClaim := { program := "ytoegkeeccocihaa", sum := "81f7d7d983911adf6da2bace22b7b781393b7728cff299685dc7733cd8ea8b74", func := "loop.example/sessiontypes/laws.FnExactUnfoldLocal", spec := "fnExactUnfoldLocal", inPlace := ["internal/bytealg.IndexByteString", "internal/bytealg.IndexString"], unfollowed := true, recurses := true, named := ["internal/bytealg.MaxLen"], loops := true, plainKeys := false, apart := false }
def FnExactUnfoldLocalSaid : Prop := fnExactUnfoldLocalRow.holds Try.pinned (OpenSpec.ofChange fnExactUnfoldLocalSpec)

/-- ITS FALSE NEIGHBOUR: 'it returns false'. Refute it at one input. -/
def fnExactUnfoldLocalWrong : ChangeSpec := { name := "fnExactUnfoldLocal", fn := fun _ => fun
  | [d] => { results := [.lit (.bool false)], args := [d] }
  | _ => none }
def FnExactUnfoldLocalWrongFalsely : Prop := fnExactUnfoldLocalRow.holds Try.pinned (OpenSpec.ofChange fnExactUnfoldLocalWrong)

/-- 'laws.FnExactStepLocal': WHATEVER THE INPUT: true; the input reads as it did. -/
def fnExactStepLocalSpec : ChangeSpec := { name := "fnExactStepLocal", fn := fun _ => fun
  | [d1, d2] => { results := [.lit (.bool true)], args := [d1, d2] }
  | _ => none }
def fnExactStepLocalRow : OpenClaim := { program := "ytoegkeeccocihaa", sum := "81f7d7d983911adf6da2bace22b7b781393b7728cff299685dc7733cd8ea8b74", func := "loop.example/sessiontypes/laws.FnExactStepLocal", spec := "fnExactStepLocal", inPlace := ["internal/bytealg.IndexByteString", "internal/bytealg.IndexString"], unfollowed := true, recurses := true, named := ["internal/bytealg.MaxLen"], loops := true, plainKeys := false, apart := false }
def FnExactStepLocalSaid : Prop := fnExactStepLocalRow.holds Try.pinned (OpenSpec.ofChange fnExactStepLocalSpec)

/-- ITS FALSE NEIGHBOUR: 'it returns false'. Refute it at one input. -/
def fnExactStepLocalWrong : ChangeSpec := { name := "fnExactStepLocal", fn := fun _ => fun
  | [d1, d2] => { results := [.lit (.bool false)], args := [d1, d2] }
  | _ => none }
def FnExactStepLocalWrongFalsely : Prop := fnExactStepLocalRow.holds Try.pinned (OpenSpec.ofChange fnExactStepLocalWrong)

/-- 'laws.FnExactParseLocal': WHATEVER THE INPUT: true; the input reads as it did. -/
def fnExactParseLocalSpec : ChangeSpec := { name := "fnExactParseLocal", fn := fun _ => fun
  | [d] => { results := [.lit (.bool true)], args := [d] }
  | _ => none }
def fnExactParseLocalRow : OpenClaim := { program := "ytoegkeeccocihaa", sum := "81f7d7d983911adf6da2bace22b7b781393b7728cff299685dc7733cd8ea8b74", func := "loop.example/sessiontypes/laws.FnExactParseLocal", spec := "fnExactParseLocal", inPlace := ["internal/bytealg.IndexByteString", "internal/bytealg.IndexString"], unfollowed := true, recurses := true, named := ["internal/bytealg.MaxLen"], plainKeys := false, apart := false }
def FnExactParseLocalSaid : Prop := fnExactParseLocalRow.holds Try.pinned (OpenSpec.ofChange fnExactParseLocalSpec)

/-- ITS FALSE NEIGHBOUR: 'it returns false'. Refute it at one input. -/
def fnExactParseLocalWrong : ChangeSpec := { name := "fnExactParseLocal", fn := fun _ => fun
  | [d] => { results := [.lit (.bool false)], args := [d] }
  | _ => none }
def FnExactParseLocalWrongFalsely : Prop := fnExactParseLocalRow.holds Try.pinned (OpenSpec.ofChange fnExactParseLocalWrong)

/-- 'laws.FnExactLocalEquivalent': WHATEVER THE INPUT: true; the input reads as it did. -/
def fnExactLocalEquivalentSpec : ChangeSpec := { name := "fnExactLocalEquivalent", fn := fun _ => fun
  | [d1, d2] => { results := [.lit (.bool true)], args := [d1, d2] }
  | _ => none }
def fnExactLocalEquivalentRow : OpenClaim := { program := "ytoegkeeccocihaa", sum := "81f7d7d983911adf6da2bace22b7b781393b7728cff299685dc7733cd8ea8b74", func := "loop.example/sessiontypes/laws.FnExactLocalEquivalent", spec := "fnExactLocalEquivalent", inPlace := ["internal/bytealg.IndexByteString", "internal/bytealg.IndexString"], unfollowed := true, recurses := true, named := ["internal/bytealg.MaxLen"], loops := true, plainKeys := false, apart := false }
def FnExactLocalEquivalentSaid : Prop := fnExactLocalEquivalentRow.holds Try.pinned (OpenSpec.ofChange fnExactLocalEquivalentSpec)

/-- ITS FALSE NEIGHBOUR: 'it returns false'. Refute it at one input. -/
def fnExactLocalEquivalentWrong : ChangeSpec := { name := "fnExactLocalEquivalent", fn := fun _ => fun
  | [d1, d2] => { results := [.lit (.bool false)], args := [d1, d2] }
  | _ => none }
def FnExactLocalEquivalentWrongFalsely : Prop := fnExactLocalEquivalentRow.holds Try.pinned (OpenSpec.ofChange fnExactLocalEquivalentWrong)

/-- 'laws.FnExactIsSubtype': WHATEVER THE INPUT: true; the input reads as it did. -/
def fnExactIsSubtypeSpec : ChangeSpec := { name := "fnExactIsSubtype", fn := fun _ => fun
  | [d1, d2] => { results := [.lit (.bool true)], args := [d1, d2] }
  | _ => none }
def fnExactIsSubtypeRow : OpenClaim := { program := "ytoegkeeccocihaa", sum := "81f7d7d983911adf6da2bace22b7b781393b7728cff299685dc7733cd8ea8b74", func := "loop.example/sessiontypes/laws.FnExactIsSubtype", spec := "fnExactIsSubtype", inPlace := ["internal/bytealg.IndexByteString", "internal/bytealg.IndexString"], unfollowed := true, recurses := true, named := ["internal/bytealg.MaxLen"], loops := true, plainKeys := false, apart := false }
def FnExactIsSubtypeSaid : Prop := fnExactIsSubtypeRow.holds Try.pinned (OpenSpec.ofChange fnExactIsSubtypeSpec)

/-- ITS FALSE NEIGHBOUR: 'it returns false'. Refute it at one input. -/
def fnExactIsSubtypeWrong : ChangeSpec := { name := "fnExactIsSubtype", fn := fun _ => fun
  | [d1, d2] => { results := [.lit (.bool false)], args := [d1, d2] }
  | _ => none }
def FnExactIsSubtypeWrongFalsely : Prop := fnExactIsSubtypeRow.holds Try.pinned (OpenSpec.ofChange fnExactIsSubtypeWrong)

/- THE SECOND FORM. 'bulk': how many values and letters a reading holds, each counted each time it is reached (what is shared counts as often as it is met; a slice's spare places count too). A statement '..UptoSaid' is the law's where the arguments, and the package variables that the reading takes, are together of bulk at most 1048576: NARROWER than '..Said'. Prove '..Said' where nothing that the law and all that it calls make is longer than what came in: it says more and counts as full. Else prove '..UptoSaid'. A law counts once. -/
mutual
def uptoBulk {H : Type} : DataW H → Nat
  | .lit (.string bytes) => bytes.length + 1
  | .lit _ => 1
  | .nil => 1
  | .ptr d => uptoBulk d + 1
  | .slice elems spare => uptoBulkAll elems + uptoBulkAll spare + 1
  | .agg parts => uptoBulkAll parts + 1
  | .iface _ d => uptoBulk d + 1
  | .map entries => uptoBulkEntries entries + 1
  | .held _ => 1
def uptoBulkAll {H : Type} : List (DataW H) → Nat
  | [] => 0
  | d :: r => uptoBulk d + uptoBulkAll r
def uptoBulkEntries {H : Type} : List (Lit × DataW H) → Nat
  | [] => 0
  | x :: r => uptoBulkEntry x + uptoBulkEntries r
def uptoBulkEntry {H : Type} : Lit × DataW H → Nat
  | (.string bytes, d) => bytes.length + uptoBulk d + 1
  | (_, d) => uptoBulk d + 1
 end
def uptoSmall : (H : Type) → List (DataW H) → Bool := fun _ ds => decide (uptoBulkAll ds ≤ 1048576)
def OpenSpec.upto (s : _root_.Go.ChangeSpec) : _root_.Go.OpenSpec := { _root_.Go.OpenSpec.ofChange s with cond := some uptoSmall }

/-- 'laws.FnExactUnfoldGlobal', WHERE WHAT IT READS IS OF BULK AT MOST 1048576: true; the input reads as it did. -/
def fnExactUnfoldGlobalUptoRow : OpenClaim := { program := "ytoegkeeccocihaa", sum := "81f7d7d983911adf6da2bace22b7b781393b7728cff299685dc7733cd8ea8b74", func := "loop.example/sessiontypes/laws.FnExactUnfoldGlobal", spec := "fnExactUnfoldGlobal", inPlace := ["internal/bytealg.IndexByteString", "internal/bytealg.IndexString"], unfollowed := true, recurses := true, named := ["internal/bytealg.MaxLen"], loops := true, plainKeys := false, apart := false, narrowed := true }
def FnExactUnfoldGlobalUptoSaid : Prop := fnExactUnfoldGlobalUptoRow.holds Try.pinned (OpenSpec.upto fnExactUnfoldGlobalSpec)

/-- 'laws.FnExactStepGlobal', WHERE WHAT IT READS IS OF BULK AT MOST 1048576: true; the input reads as it did. -/
def fnExactStepGlobalUptoRow : OpenClaim := { program := "ytoegkeeccocihaa", sum := "81f7d7d983911adf6da2bace22b7b781393b7728cff299685dc7733cd8ea8b74", func := "loop.example/sessiontypes/laws.FnExactStepGlobal", spec := "fnExactStepGlobal", inPlace := ["internal/bytealg.IndexByteString", "internal/bytealg.IndexString"], unfollowed := true, recurses := true, named := ["internal/bytealg.MaxLen"], loops := true, plainKeys := false, apart := false, narrowed := true }
def FnExactStepGlobalUptoSaid : Prop := fnExactStepGlobalUptoRow.holds Try.pinned (OpenSpec.upto fnExactStepGlobalSpec)

/-- 'laws.FnExactParseGlobal', WHERE WHAT IT READS IS OF BULK AT MOST 1048576: true; the input reads as it did. -/
def fnExactParseGlobalUptoRow : OpenClaim := { program := "ytoegkeeccocihaa", sum := "81f7d7d983911adf6da2bace22b7b781393b7728cff299685dc7733cd8ea8b74", func := "loop.example/sessiontypes/laws.FnExactParseGlobal", spec := "fnExactParseGlobal", inPlace := ["internal/bytealg.IndexByteString", "internal/bytealg.IndexString"], unfollowed := true, recurses := true, named := ["internal/bytealg.MaxLen"], plainKeys := false, apart := false, narrowed := true }
def FnExactParseGlobalUptoSaid : Prop := fnExactParseGlobalUptoRow.holds Try.pinned (OpenSpec.upto fnExactParseGlobalSpec)

/-- 'laws.FnExactUnfoldLocal', WHERE WHAT IT READS IS OF BULK AT MOST 1048576: true; the input reads as it did. -/
def fnExactUnfoldLocalUptoRow : OpenClaim := { program := "ytoegkeeccocihaa", sum := "81f7d7d983911adf6da2bace22b7b781393b7728cff299685dc7733cd8ea8b74", func := "loop.example/sessiontypes/laws.FnExactUnfoldLocal", spec := "fnExactUnfoldLocal", inPlace := ["internal/bytealg.IndexByteString", "internal/bytealg.IndexString"], unfollowed := true, recurses := true, named := ["internal/bytealg.MaxLen"], loops := true, plainKeys := false, apart := false, narrowed := true }
def FnExactUnfoldLocalUptoSaid : Prop := fnExactUnfoldLocalUptoRow.holds Try.pinned (OpenSpec.upto fnExactUnfoldLocalSpec)

/-- 'laws.FnExactStepLocal', WHERE WHAT IT READS IS OF BULK AT MOST 1048576: true; the input reads as it did. -/
def fnExactStepLocalUptoRow : OpenClaim := { program := "ytoegkeeccocihaa", sum := "81f7d7d983911adf6da2bace22b7b781393b7728cff299685dc7733cd8ea8b74", func := "loop.example/sessiontypes/laws.FnExactStepLocal", spec := "fnExactStepLocal", inPlace := ["internal/bytealg.IndexByteString", "internal/bytealg.IndexString"], unfollowed := true, recurses := true, named := ["internal/bytealg.MaxLen"], loops := true, plainKeys := false, apart := false, narrowed := true }
def FnExactStepLocalUptoSaid : Prop := fnExactStepLocalUptoRow.holds Try.pinned (OpenSpec.upto fnExactStepLocalSpec)

/-- 'laws.FnExactParseLocal', WHERE WHAT IT READS IS OF BULK AT MOST 1048576: true; the input reads as it did. -/
def fnExactParseLocalUptoRow : OpenClaim := { program := "ytoegkeeccocihaa", sum := "81f7d7d983911adf6da2bace22b7b781393b7728cff299685dc7733cd8ea8b74", func := "loop.example/sessiontypes/laws.FnExactParseLocal", spec := "fnExactParseLocal", inPlace := ["internal/bytealg.IndexByteString", "internal/bytealg.IndexString"], unfollowed := true, recurses := true, named := ["internal/bytealg.MaxLen"], plainKeys := false, apart := false, narrowed := true }
def FnExactParseLocalUptoSaid : Prop := fnExactParseLocalUptoRow.holds Try.pinned (OpenSpec.upto fnExactParseLocalSpec)

/-- 'laws.FnExactLocalEquivalent', WHERE WHAT IT READS IS OF BULK AT MOST 1048576: true; the input reads as it did. -/
def fnExactLocalEquivalentUptoRow : OpenClaim := { program := "ytoegkeeccocihaa", sum := "81f7d7d983911adf6da2bace22b7b781393b7728cff299685dc7733cd8ea8b74", func := "loop.example/sessiontypes/laws.FnExactLocalEquivalent", spec := "fnExactLocalEquivalent", inPlace := ["internal/bytealg.IndexByteString", "internal/bytealg.IndexString"], unfollowed := true, recurses := true, named := ["internal/bytealg.MaxLen"], loops := true, plainKeys := false, apart := false, narrowed := true }
def FnExactLocalEquivalentUptoSaid : Prop := fnExactLocalEquivalentUptoRow.holds Try.pinned (OpenSpec.upto fnExactLocalEquivalentSpec)

/-- 'laws.FnExactIsSubtype', WHERE WHAT IT READS IS OF BULK AT MOST 1048576: true; the input reads as it did. -/
def fnExactIsSubtypeUptoRow : OpenClaim := { program := "ytoegkeeccocihaa", sum := "81f7d7d983911adf6da2bace22b7b781393b7728cff299685dc7733cd8ea8b74", func := "loop.example/sessiontypes/laws.FnExactIsSubtype", spec := "fnExactIsSubtype", inPlace := ["internal/bytealg.IndexByteString", "internal/bytealg.IndexString"], unfollowed := true, recurses := true, named := ["internal/bytealg.MaxLen"], loops := true, plainKeys := false, apart := false, narrowed := true }
def FnExactIsSubtypeUptoSaid : Prop := fnExactIsSubtypeUptoRow.holds Try.pinned (OpenSpec.upto fnExactIsSubtypeSpec)

end Rows
end Go.Proofs.Ytoegkeeccocihaa
