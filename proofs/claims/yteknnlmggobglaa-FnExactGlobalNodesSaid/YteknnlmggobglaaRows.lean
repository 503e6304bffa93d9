/-
  NARROWER THAN 'FOR EVERY INPUT', by the rows' own cells (each row's printed sentence says how): FnExactGlobalValid: loops · FnExactGlobalNodes: loops · FnExactGlobalEqual: loops · FnExactUnfoldGlobal: loops · FnExactStepGlobal: loops.
  DERIVED. THE GIVEN ROWS OF THIS SEAT. 8 by the template 'for every input the law returns true; each argument reads behind the call as it read before'; 0 by the template 'total and deterministic' (their statements: YteknnlmggobglaaTotals.lean).
  GIVEN WITH THE SEED: the statements are not yours to turn. If you find one false, say at which input.
  Laid BY PROGRAM, IN A SANDBOX (cutbox-rows.mjs): the forced cells as the released guide's own fill.sh prints them over the translation 43c25686d602bb85… (all of the seat's roots in one cut). By AI agents, Wed Nov 11 2026. No macro, syntax, notation, axiom, sorry.
-/
import Derived.Test.YteknnlmggobglaaChecked
import GoSem.Claim
import GoSem.ClaimJoined
import GoSem.ClaimMapViews
import Derived.JoinedTies
import Derived.KernelRfl
namespace Go.Proofs.Yteknnlmggobglaa
/- THE CELL 'sum', in the pinned program and in every row, IS THE sha256 OF THE DUMP (.gsa) THAT YteknnlmggobglaaProg.lean LOADS. Nothing in Lean hashes anything: it is a label: what it is worth is what the hold of that sum in a sandbox is worth. -/
noncomputable def Try.pinned : Pinned := { name := "yteknnlmggobglaa", sum := "43c25686d602bb8507393ea967be60d65f33d25a52c56873fa1fe48a50251005", checked := Try.checked }
namespace Rows
def none {H : Type} : Left H := { results := [], args := [] }

/-- 'laws.FnExactIsRole': WHATEVER THE INPUT: true; the input reads as it did. -/
def fnExactIsRoleSpec : ChangeSpec := { name := "fnExactIsRole", fn := fun _ => fun
  | [d] => { results := [.lit (.bool true)], args := [d] }
  | _ => none }
def fnExactIsRoleRow : OpenClaim := { program := "yteknnlmggobglaa", sum := "43c25686d602bb8507393ea967be60d65f33d25a52c56873fa1fe48a50251005", func := "loop.example/sessiontypes/laws.FnExactIsRole", spec := "fnExactIsRole", inPlace := ["internal/bytealg.IndexByteString", "internal/bytealg.IndexString"], named := ["internal/bytealg.MaxLen"], plainKeys := false, apart := false }
def FnExactIsRoleSaid : Prop := fnExactIsRoleRow.holds Try.pinned (OpenSpec.ofChange fnExactIsRoleSpec)

/-- ITS FALSE NEIGHBOUR: 'it returns false'. Refute it at one input. -/
def fnExactIsRoleWrong : ChangeSpec := { name := "fnExactIsRole", fn := fun _ => fun
  | [d] => { results := [.lit (.bool false)], args := [d] }
  | _ => none }
def FnExactIsRoleWrongFalsely : Prop := fnExactIsRoleRow.holds Try.pinned (OpenSpec.ofChange fnExactIsRoleWrong)

/-- 'laws.FnExactIsLabel': WHATEVER THE INPUT: true; the input reads as it did. -/
def fnExactIsLabelSpec : ChangeSpec := { name := "fnExactIsLabel", fn := fun _ => fun
  | [d] => { results := [.lit (.bool true)], args := [d] }
  | _ => none }
def fnExactIsLabelRow : OpenClaim := { program := "yteknnlmggobglaa", sum := "43c25686d602bb8507393ea967be60d65f33d25a52c56873fa1fe48a50251005", func := "loop.example/sessiontypes/laws.FnExactIsLabel", spec := "fnExactIsLabel", inPlace := ["internal/bytealg.IndexByteString", "internal/bytealg.IndexString"], named := ["internal/bytealg.MaxLen"], plainKeys := false, apart := false }
def FnExactIsLabelSaid : Prop := fnExactIsLabelRow.holds Try.pinned (OpenSpec.ofChange fnExactIsLabelSpec)

/-- ITS FALSE NEIGHBOUR: 'it returns false'. Refute it at one input. -/
def fnExactIsLabelWrong : ChangeSpec := { name := "fnExactIsLabel", fn := fun _ => fun
  | [d] => { results := [.lit (.bool false)], args := [d] }
  | _ => none }
def FnExactIsLabelWrongFalsely : Prop := fnExactIsLabelRow.holds Try.pinned (OpenSpec.ofChange fnExactIsLabelWrong)

/-- 'laws.FnExactGlobalValid': WHATEVER THE INPUT: true; the input reads as it did. -/
def fnExactGlobalValidSpec : ChangeSpec := { name := "fnExactGlobalValid", fn := fun _ => fun
  | [d] => { results := [.lit (.bool true)], args := [d] }
  | _ => none }
def fnExactGlobalValidRow : OpenClaim := { program := "yteknnlmggobglaa", sum := "43c25686d602bb8507393ea967be60d65f33d25a52c56873fa1fe48a50251005", func := "loop.example/sessiontypes/laws.FnExactGlobalValid", spec := "fnExactGlobalValid", inPlace := ["internal/bytealg.IndexByteString", "internal/bytealg.IndexString"], recurses := true, named := ["internal/bytealg.MaxLen"], loops := true, plainKeys := false, apart := false }
def FnExactGlobalValidSaid : Prop := fnExactGlobalValidRow.holds Try.pinned (OpenSpec.ofChange fnExactGlobalValidSpec)

/-- ITS FALSE NEIGHBOUR: 'it returns false'. Refute it at one input. -/
def fnExactGlobalValidWrong : ChangeSpec := { name := "fnExactGlobalValid", fn := fun _ => fun
  | [d] => { results := [.lit (.bool false)], args := [d] }
  | _ => none }
def FnExactGlobalValidWrongFalsely : Prop := fnExactGlobalValidRow.holds Try.pinned (OpenSpec.ofChange fnExactGlobalValidWrong)

/-- 'laws.FnExactGlobalNodes': WHATEVER THE INPUT: true; the input reads as it did. -/
def fnExactGlobalNodesSpec : ChangeSpec := { name := "fnExactGlobalNodes", fn := fun _ => fun
  | [d] => { results := [.lit (.bool true)], args := [d] }
  | _ => none }
def fnExactGlobalNodesRow : OpenClaim := { program := "yteknnlmggobglaa", sum := "43c25686d602bb8507393ea967be60d65f33d25a52c56873fa1fe48a50251005", func := "loop.example/sessiontypes/laws.FnExactGlobalNodes", spec := "fnExactGlobalNodes", inPlace := ["internal/bytealg.IndexByteString", "internal/bytealg.IndexString"], recurses := true, named := ["internal/bytealg.MaxLen"], loops := true, plainKeys := false, apart := false }
def FnExactGlobalNodesSaid : Prop := fnExactGlobalNodesRow.holds Try.pinned (OpenSpec.ofChange fnExactGlobalNodesSpec)

/-- ITS FALSE NEIGHBOUR: 'it returns false'. Refute it at one input. -/
def fnExactGlobalNodesWrong : ChangeSpec := { name := "fnExactGlobalNodes", fn := fun _ => fun
  | [d] => { results := [.lit (.bool false)], args := [d] }
  | _ => none }
def FnExactGlobalNodesWrongFalsely : Prop := fnExactGlobalNodesRow.holds Try.pinned (OpenSpec.ofChange fnExactGlobalNodesWrong)

/-- 'laws.FnExactGlobalEqual': WHATEVER THE INPUT: true; the input reads as it did. -/
def fnExactGlobalEqualSpec : ChangeSpec := { name := "fnExactGlobalEqual", fn := fun _ => fun
  | [d1, d2] => { results := [.lit (.bool true)], args := [d1, d2] }
  | _ => none }
def fnExactGlobalEqualRow : OpenClaim := { program := "yteknnlmggobglaa", sum := "43c25686d602bb8507393ea967be60d65f33d25a52c56873fa1fe48a50251005", func := "loop.example/sessiontypes/laws.FnExactGlobalEqual", spec := "fnExactGlobalEqual", recurses := true, loops := true, plainKeys := false, apart := false }
def FnExactGlobalEqualSaid : Prop := fnExactGlobalEqualRow.holds Try.pinned (OpenSpec.ofChange fnExactGlobalEqualSpec)

/-- ITS FALSE NEIGHBOUR: 'it returns false'. Refute it at one input. -/
def fnExactGlobalEqualWrong : ChangeSpec := { name := "fnExactGlobalEqual", fn := fun _ => fun
  | [d1, d2] => { results := [.lit (.bool false)], args := [d1, d2] }
  | _ => none }
def FnExactGlobalEqualWrongFalsely : Prop := fnExactGlobalEqualRow.holds Try.pinned (OpenSpec.ofChange fnExactGlobalEqualWrong)

/-- 'laws.FnExactParseGlobal': WHATEVER THE INPUT: true; the input reads as it did. -/
def fnExactParseGlobalSpec : ChangeSpec := { name := "fnExactParseGlobal", fn := fun _ => fun
  | [d] => { results := [.lit (.bool true)], args := [d] }
  | _ => none }
def fnExactParseGlobalRow : OpenClaim := { program := "yteknnlmggobglaa", sum := "43c25686d602bb8507393ea967be60d65f33d25a52c56873fa1fe48a50251005", func := "loop.example/sessiontypes/laws.FnExactParseGlobal", spec := "fnExactParseGlobal", inPlace := ["internal/bytealg.IndexByteString", "internal/bytealg.IndexString"], recurses := true, named := ["internal/bytealg.MaxLen"], plainKeys := false, apart := false }
def FnExactParseGlobalSaid : Prop := fnExactParseGlobalRow.holds Try.pinned (OpenSpec.ofChange fnExactParseGlobalSpec)

/-- ITS FALSE NEIGHBOUR: 'it returns false'. Refute it at one input. -/
def fnExactParseGlobalWrong : ChangeSpec := { name := "fnExactParseGlobal", fn := fun _ => fun
  | [d] => { results := [.lit (.bool false)], args := [d] }
  | _ => none }
def FnExactParseGlobalWrongFalsely : Prop := fnExactParseGlobalRow.holds Try.pinned (OpenSpec.ofChange fnExactParseGlobalWrong)

/-- 'laws.FnExactUnfoldGlobal': WHATEVER THE INPUT: true; the input reads as it did. -/
def fnExactUnfoldGlobalSpec : ChangeSpec := { name := "fnExactUnfoldGlobal", fn := fun _ => fun
  | [d] => { results := [.lit (.bool true)], args := [d] }
  | _ => none }
def fnExactUnfoldGlobalRow : OpenClaim := { program := "yteknnlmggobglaa", sum := "43c25686d602bb8507393ea967be60d65f33d25a52c56873fa1fe48a50251005", func := "loop.example/sessiontypes/laws.FnExactUnfoldGlobal", spec := "fnExactUnfoldGlobal", inPlace := ["internal/bytealg.IndexByteString", "internal/bytealg.IndexString"], unfollowed := true, recurses := true, named := ["internal/bytealg.MaxLen"], loops := true, plainKeys := false, apart := false }
def FnExactUnfoldGlobalSaid : Prop := fnExactUnfoldGlobalRow.holds Try.pinned (OpenSpec.ofChange fnExactUnfoldGlobalSpec)

/-- ITS FALSE NEIGHBOUR: 'it returns false'. Refute it at one input. -/
def fnExactUnfoldGlobalWrong : ChangeSpec := { name := "fnExactUnfoldGlobal", fn := fun _ => fun
  | [d] => { results := [.lit (.bool false)], args := [d] }
  | _ => none }
def FnExactUnfoldGlobalWrongFalsely : Prop := fnExactUnfoldGlobalRow.holds Try.pinned (OpenSpec.ofChange fnExactUnfoldGlobalWrong)

/-- 'laws.FnExactStepGlobal': WHATEVER THE INPUT: true; the input reads as it did. -/
def fnExactStepGlobalSpec : ChangeSpec := { name := "fnExactStepGlobal", fn := fun _ => fun
  | [d1, d2] => { results := [.lit (.bool true)], args := [d1, d2] }
  | _ => none }
def fnExactStepGlobalRow : OpenClaim := { program := "yteknnlmggobglaa", sum := "43c25686d602bb8507393ea967be60d65f33d25a52c56873fa1fe48a50251005", func := "loop.example/sessiontypes/laws.FnExactStepGlobal", spec := "fnExactStepGlobal", inPlace := ["internal/bytealg.IndexByteString", "internal/bytealg.IndexString"], unfollowed := true, recurses := true, named := ["internal/bytealg.MaxLen"], loops := true, plainKeys := false, apart := false }
def FnExactStepGlobalSaid : Prop := fnExactStepGlobalRow.holds Try.pinned (OpenSpec.ofChange fnExactStepGlobalSpec)

/-- ITS FALSE NEIGHBOUR: 'it returns false'. Refute it at one input. -/
def fnExactStepGlobalWrong : ChangeSpec := { name := "fnExactStepGlobal", fn := fun _ => fun
  | [d1, d2] => { results := [.lit (.bool false)], args := [d1, d2] }
  | _ => none }
def FnExactStepGlobalWrongFalsely : Prop := fnExactStepGlobalRow.holds Try.pinned (OpenSpec.ofChange fnExactStepGlobalWrong)

/- THE SECOND FORM. 'bulk': how many values and letters a reading holds, each counted each time it is reached (what is shared counts as often as it is met; a slice's spare places count too). A statement '..UptoSaid' is the law's where the arguments, and the package variables that the reading takes, are together of bulk at most 1048576: NARROWER than '..Said'. Prove '..Said' where nothing that the law and all that it calls make is longer than what came in: it says more and counts as full. Else prove '..UptoSaid'. A law counts once. -/
mutual
def uptoBulk {H : Type} : DataW H → Nat
  | .lit (.string bytes) => bytes.length + 1
  | .lit _ => 1
  | .nil => 1
  | .ptr d => uptoBulk d + 1
  | .slice elems spare => uptoBulkAll elems + uptoBulkAll spare + 1
  | .agg parts => uptoBulkAll parts + 1
  | .iface _ d => uptoBulk d + 1
  | .map entries => uptoBulkEntries entries + 1
  | .held _ => 1
def uptoBulkAll {H : Type} : List (DataW H) → Nat
  | [] => 0
  | d :: r => uptoBulk d + uptoBulkAll r
def uptoBulkEntries {H : Type} : List (Lit × DataW H) → Nat
  | [] => 0
  | x :: r => uptoBulkEntry x + uptoBulkEntries r
def uptoBulkEntry {H : Type} : Lit × DataW H → Nat
  | (.string bytes, d) => bytes.length + uptoBulk d + 1
  | (_, d) => uptoBulk d + 1
 end
def uptoSmall : (H : Type) → List (DataW H) → Bool := fun _ ds => decide (uptoBulkAll ds ≤ 1048576)
def OpenSpec.upto (s : _root_.Go.ChangeSpec) : _root_.Go.OpenSpec := { _root_.Go.OpenSpec.ofChange s with cond := some uptoSmall }

/-- 'laws.FnExactIsRole', WHERE WHAT IT READS IS OF BULK AT MOST 1048576: true; the input reads as it did. -/
def fnExactIsRoleUptoRow : OpenClaim := { program := "yteknnlmggobglaa", sum := "43c25686d602bb8507393ea967be60d65f33d25a52c56873fa1fe48a50251005", func := "loop.example/sessiontypes/laws.FnExactIsRole", spec := "fnExactIsRole", inPlace := ["internal/bytealg.IndexByteString", "internal/bytealg.IndexString"], named := ["internal/bytealg.MaxLen"], plainKeys := false, apart := false, narrowed := true }
def FnExactIsRoleUptoSaid : Prop := fnExactIsRoleUptoRow.holds Try.pinned (OpenSpec.upto fnExactIsRoleSpec)

/-- 'laws.FnExactIsLabel', WHERE WHAT IT READS IS OF BULK AT MOST 1048576: true; the input reads as it did. -/
def fnExactIsLabelUptoRow : OpenClaim := { program := "yteknnlmggobglaa", sum := "43c25686d602bb8507393ea967be60d65f33d25a52c56873fa1fe48a50251005", func := "loop.example/sessiontypes/laws.FnExactIsLabel", spec := "fnExactIsLabel", inPlace := ["internal/bytealg.IndexByteString", "internal/bytealg.IndexString"], named := ["internal/bytealg.MaxLen"], plainKeys := false, apart := false, narrowed := true }
def FnExactIsLabelUptoSaid : Prop := fnExactIsLabelUptoRow.holds Try.pinned (OpenSpec.upto fnExactIsLabelSpec)

/-- 'laws.FnExactGlobalValid', WHERE WHAT IT READS IS OF BULK AT MOST 1048576: true; the input reads as it did. -/
def fnExactGlobalValidUptoRow : OpenClaim := { program := "yteknnlmggobglaa", sum := "43c25686d602bb8507393ea967be60d65f33d25a52c56873fa1fe48a50251005", func := "loop.example/sessiontypes/laws.FnExactGlobalValid", spec := "fnExactGlobalValid", inPlace := ["internal/bytealg.IndexByteString", "internal/bytealg.IndexString"], recurses := true, named := ["internal/bytealg.MaxLen"], loops := true, plainKeys := false, apart := false, narrowed := true }
def FnExactGlobalValidUptoSaid : Prop := fnExactGlobalValidUptoRow.holds Try.pinned (OpenSpec.upto fnExactGlobalValidSpec)

/-- 'laws.FnExactGlobalNodes', WHERE WHAT IT READS IS OF BULK AT MOST 1048576: true; the input reads as it did. -/
def fnExactGlobalNodesUptoRow : OpenClaim := { program := "yteknnlmggobglaa", sum := "43c25686d602bb8507393ea967be60d65f33d25a52c56873fa1fe48a50251005", func := "loop.example/sessiontypes/laws.FnExactGlobalNodes", spec := "fnExactGlobalNodes", inPlace := ["internal/bytealg.IndexByteString", "internal/bytealg.IndexString"], recurses := true, named := ["internal/bytealg.MaxLen"], loops := true, plainKeys := false, apart := false, narrowed := true }
def FnExactGlobalNodesUptoSaid : Prop := fnExactGlobalNodesUptoRow.holds Try.pinned (OpenSpec.upto fnExactGlobalNodesSpec)

/-- 'laws.FnExactGlobalEqual', WHERE WHAT IT READS IS OF BULK AT MOST 1048576: true; the input reads as it did. -/
def fnExactGlobalEqualUptoRow : OpenClaim := { program := "yteknnlmggobglaa", sum := "43c25686d602bb8507393ea967be60d65f33d25a52c56873fa1fe48a50251005", func := "loop.example/sessiontypes/laws.FnExactGlobalEqual", spec := "fnExactGlobalEqual", recurses := true, loops := true, plainKeys := false, apart := false, narrowed := true }
def FnExactGlobalEqualUptoSaid : Prop := fnExactGlobalEqualUptoRow.holds Try.pinned (OpenSpec.upto fnExactGlobalEqualSpec)

/-- 'laws.FnExactParseGlobal', WHERE WHAT IT READS IS OF BULK AT MOST 1048576: true; the input reads as it did. -/
def fnExactParseGlobalUptoRow : OpenClaim := { program := "yteknnlmggobglaa", sum := "43c25686d602bb8507393ea967be60d65f33d25a52c56873fa1fe48a50251005", func := "loop.example/sessiontypes/laws.FnExactParseGlobal", spec := "fnExactParseGlobal", inPlace := ["internal/bytealg.IndexByteString", "internal/bytealg.IndexString"], recurses := true, named := ["internal/bytealg.MaxLen"], plainKeys := false, apart := false, narrowed := true }
def FnExactParseGlobalUptoSaid : Prop := fnExactParseGlobalUptoRow.holds Try.pinned (OpenSpec.upto fnExactParseGlobalSpec)

/-- 'laws.FnExactUnfoldGlobal', WHERE WHAT IT READS IS OF BULK AT MOST 1048576: true; the input reads as it did. -/
def fnExactUnfoldGlobalUptoRow : OpenClaim := { program := "yteknnlmggobglaa", sum := "43c25686d602bb8507393ea967be60d65f33d25a52c56873fa1fe48a50251005", func := "loop.example/sessiontypes/laws.FnExactUnfoldGlobal", spec := "fnExactUnfoldGlobal", inPlace := ["internal/bytealg.IndexByteString", "internal/bytealg.IndexString"], unfollowed := true, recurses := true, named := ["internal/bytealg.MaxLen"], loops := true, plainKeys := false, apart := false, narrowed := true }
def FnExactUnfoldGlobalUptoSaid : Prop := fnExactUnfoldGlobalUptoRow.holds Try.pinned (OpenSpec.upto fnExactUnfoldGlobalSpec)

/-- 'laws.FnExactStepGlobal', WHERE WHAT IT READS IS OF BULK AT MOST 1048576: true; the input reads as it did. -/
def fnExactStepGlobalUptoRow : OpenClaim := { program := "yteknnlmggobglaa", sum := "43c25686d602bb8507393ea967be60d65f33d25a52c56873fa1fe48a50251005", func := "loop.example/sessiontypes/laws.FnExactStepGlobal", spec := "fnExactStepGlobal", inPlace := ["internal/bytealg.IndexByteString", "internal/bytealg.IndexString"], unfollowed := true, recurses := true, named := ["internal/bytealg.MaxLen"], loops := true, plainKeys := false, apart := false, narrowed := true }
def FnExactStepGlobalUptoSaid : Prop := fnExactStepGlobalUptoRow.holds Try.pinned (OpenSpec.upto fnExactStepGlobalSpec)

end Rows
end Go.Proofs.Yteknnlmggobglaa
