/-
  NARROWER THAN 'FOR EVERY INPUT', by the rows' own cells (each row's printed sentence says how): FnExactGlobalValid: loops · FnExactGlobalNodes: loops · FnExactGlobalEqual: loops.
  DERIVED. THE GIVEN ROWS OF THIS SEAT. 10 by the template 'for every input the law returns true; each argument reads behind the call as it read before'; 0 by the template 'total and deterministic' (their statements: YteiegfcdcpoenaaTotals.lean).
  GIVEN WITH THE SEED: the statements are not yours to turn. If you find one false, say at which input.
  Laid BY PROGRAM, IN A SANDBOX (cutbox-rows.mjs): the forced cells as the released guide's own fill.sh prints them over the translation 8d0f8cb6e2aaf519… (all of the seat's roots in one cut). By AI agents, Wed Nov 11 2026. No macro, syntax, notation, axiom, sorry.
-/
import Derived.Test.YteiegfcdcpoenaaChecked
import GoSem.Claim
import GoSem.ClaimJoined
import GoSem.ClaimMapViews
import Derived.JoinedTies
import Derived.KernelRfl
namespace Go.Proofs.Yteiegfcdcpoenaa
/- THE CELL 'sum', in the pinned program and in every row, IS THE sha256 OF THE DUMP (.gsa) THAT YteiegfcdcpoenaaProg.lean LOADS. Nothing in Lean hashes anything: it is a label: what it is worth is what the hold of that sum in a sandbox is worth. -/
noncomputable def Try.pinned : Pinned := { name := "yteiegfcdcpoenaa", sum := "8d0f8cb6e2aaf5192fad25e257c28ca00196d7603b1ef66371d2d4903bab9ad4", checked := Try.checked }
namespace Rows
def none {H : Type} : Left H := { results := [], args := [] }

/-- 'laws.FnLocalEquivalence': WHATEVER THE INPUT: true; the input reads as it did. -/
def fnLocalEquivalenceSpec : ChangeSpec := { name := "fnLocalEquivalence", fn := fun _ => fun
  | [d] => { results := [.lit (.bool true)], args := [d] }
  | _ => none }
def fnLocalEquivalenceRow : OpenClaim := { program := "yteiegfcdcpoenaa", sum := "8d0f8cb6e2aaf5192fad25e257c28ca00196d7603b1ef66371d2d4903bab9ad4", func := "loop.example/sessiontypes/laws.FnLocalEquivalence", spec := "fnLocalEquivalence", inPlace := ["internal/bytealg.IndexByteString", "internal/bytealg.IndexString"], unfollowed := true, recurses := true, named := ["internal/bytealg.MaxLen"], plainKeys := false, apart := false }
def FnLocalEquivalenceSaid : Prop := fnLocalEquivalenceRow.holds Try.pinned (OpenSpec.ofChange fnLocalEquivalenceSpec)

/-- ITS FALSE NEIGHBOUR: 'it returns false'. Refute it at one input. -/
def fnLocalEquivalenceWrong : ChangeSpec := { name := "fnLocalEquivalence", fn := fun _ => fun
  | [d] => { results := [.lit (.bool false)], args := [d] }
  | _ => none }
def FnLocalEquivalenceWrongFalsely : Prop := fnLocalEquivalenceRow.holds Try.pinned (OpenSpec.ofChange fnLocalEquivalenceWrong)

/-- 'laws.FnSubtypePreorder': WHATEVER THE INPUT: true; the input reads as it did. -/
def fnSubtypePreorderSpec : ChangeSpec := { name := "fnSubtypePreorder", fn := fun _ => fun
  | [d1, d2] => { results := [.lit (.bool true)], args := [d1, d2] }
  | _ => none }
def fnSubtypePreorderRow : OpenClaim := { program := "yteiegfcdcpoenaa", sum := "8d0f8cb6e2aaf5192fad25e257c28ca00196d7603b1ef66371d2d4903bab9ad4", func := "loop.example/sessiontypes/laws.FnSubtypePreorder", spec := "fnSubtypePreorder", inPlace := ["internal/bytealg.IndexByteString", "internal/bytealg.IndexString"], unfollowed := true, recurses := true, named := ["internal/bytealg.MaxLen"], plainKeys := false, apart := false }
def FnSubtypePreorderSaid : Prop := fnSubtypePreorderRow.holds Try.pinned (OpenSpec.ofChange fnSubtypePreorderSpec)

/-- ITS FALSE NEIGHBOUR: 'it returns false'. Refute it at one input. -/
def fnSubtypePreorderWrong : ChangeSpec := { name := "fnSubtypePreorder", fn := fun _ => fun
  | [d1, d2] => { results := [.lit (.bool false)], args := [d1, d2] }
  | _ => none }
def FnSubtypePreorderWrongFalsely : Prop := fnSubtypePreorderRow.holds Try.pinned (OpenSpec.ofChange fnSubtypePreorderWrong)

/-- 'laws.FnSubtypeStep': WHATEVER THE INPUT: true; the input reads as it did. -/
def fnSubtypeStepSpec : ChangeSpec := { name := "fnSubtypeStep", fn := fun _ => fun
  | [d1, d2] => { results := [.lit (.bool true)], args := [d1, d2] }
  | _ => none }
def fnSubtypeStepRow : OpenClaim := { program := "yteiegfcdcpoenaa", sum := "8d0f8cb6e2aaf5192fad25e257c28ca00196d7603b1ef66371d2d4903bab9ad4", func := "loop.example/sessiontypes/laws.FnSubtypeStep", spec := "fnSubtypeStep", inPlace := ["internal/bytealg.IndexByteString", "internal/bytealg.IndexString"], unfollowed := true, recurses := true, named := ["internal/bytealg.MaxLen"], plainKeys := false, apart := false }
def FnSubtypeStepSaid : Prop := fnSubtypeStepRow.holds Try.pinned (OpenSpec.ofChange fnSubtypeStepSpec)

/-- ITS FALSE NEIGHBOUR: 'it returns false'. Refute it at one input. -/
def fnSubtypeStepWrong : ChangeSpec := { name := "fnSubtypeStep", fn := fun _ => fun
  | [d1, d2] => { results := [.lit (.bool false)], args := [d1, d2] }
  | _ => none }
def FnSubtypeStepWrongFalsely : Prop := fnSubtypeStepRow.holds Try.pinned (OpenSpec.ofChange fnSubtypeStepWrong)

/-- 'laws.FnSubtypeSend': WHATEVER THE INPUT: true; the input reads as it did. -/
def fnSubtypeSendSpec : ChangeSpec := { name := "fnSubtypeSend", fn := fun _ => fun
  | [d] => { results := [.lit (.bool true)], args := [d] }
  | _ => none }
def fnSubtypeSendRow : OpenClaim := { program := "yteiegfcdcpoenaa", sum := "8d0f8cb6e2aaf5192fad25e257c28ca00196d7603b1ef66371d2d4903bab9ad4", func := "loop.example/sessiontypes/laws.FnSubtypeSend", spec := "fnSubtypeSend", inPlace := ["internal/bytealg.IndexByteString", "internal/bytealg.IndexString"], unfollowed := true, recurses := true, named := ["internal/bytealg.MaxLen"], plainKeys := false, apart := false }
def FnSubtypeSendSaid : Prop := fnSubtypeSendRow.holds Try.pinned (OpenSpec.ofChange fnSubtypeSendSpec)

/-- ITS FALSE NEIGHBOUR: 'it returns false'. Refute it at one input. -/
def fnSubtypeSendWrong : ChangeSpec := { name := "fnSubtypeSend", fn := fun _ => fun
  | [d] => { results := [.lit (.bool false)], args := [d] }
  | _ => none }
def FnSubtypeSendWrongFalsely : Prop := fnSubtypeSendRow.holds Try.pinned (OpenSpec.ofChange fnSubtypeSendWrong)

/-- 'laws.FnSubtypeReceive': WHATEVER THE INPUT: true; the input reads as it did. -/
def fnSubtypeReceiveSpec : ChangeSpec := { name := "fnSubtypeReceive", fn := fun _ => fun
  | [d] => { results := [.lit (.bool true)], args := [d] }
  | _ => none }
def fnSubtypeReceiveRow : OpenClaim := { program := "yteiegfcdcpoenaa", sum := "8d0f8cb6e2aaf5192fad25e257c28ca00196d7603b1ef66371d2d4903bab9ad4", func := "loop.example/sessiontypes/laws.FnSubtypeReceive", spec := "fnSubtypeReceive", inPlace := ["internal/bytealg.IndexByteString", "internal/bytealg.IndexString"], unfollowed := true, recurses := true, named := ["internal/bytealg.MaxLen"], plainKeys := false, apart := false }
def FnSubtypeReceiveSaid : Prop := fnSubtypeReceiveRow.holds Try.pinned (OpenSpec.ofChange fnSubtypeReceiveSpec)

/-- ITS FALSE NEIGHBOUR: 'it returns false'. Refute it at one input. -/
def fnSubtypeReceiveWrong : ChangeSpec := { name := "fnSubtypeReceive", fn := fun _ => fun
  | [d] => { results := [.lit (.bool false)], args := [d] }
  | _ => none }
def FnSubtypeReceiveWrongFalsely : Prop := fnSubtypeReceiveRow.holds Try.pinned (OpenSpec.ofChange fnSubtypeReceiveWrong)

/-- 'laws.FnExactIsRole': WHATEVER THE INPUT: true; the input reads as it did. -/
def fnExactIsRoleSpec : ChangeSpec := { name := "fnExactIsRole", fn := fun _ => fun
  | [d] => { results := [.lit (.bool true)], args := [d] }
  | _ => none }
def fnExactIsRoleRow : OpenClaim := { program := "yteiegfcdcpoenaa", sum := "8d0f8cb6e2aaf5192fad25e257c28ca00196d7603b1ef66371d2d4903bab9ad4", func := "loop.example/sessiontypes/laws.FnExactIsRole", spec := "fnExactIsRole", inPlace := ["internal/bytealg.IndexByteString", "internal/bytealg.IndexString"], named := ["internal/bytealg.MaxLen"], plainKeys := false, apart := false }
def FnExactIsRoleSaid : Prop := fnExactIsRoleRow.holds Try.pinned (OpenSpec.ofChange fnExactIsRoleSpec)

/-- ITS FALSE NEIGHBOUR: 'it returns false'. Refute it at one input. -/
def fnExactIsRoleWrong : ChangeSpec := { name := "fnExactIsRole", fn := fun _ => fun
  | [d] => { results := [.lit (.bool false)], args := [d] }
  | _ => none }
def FnExactIsRoleWrongFalsely : Prop := fnExactIsRoleRow.holds Try.pinned (OpenSpec.ofChange fnExactIsRoleWrong)

/-- 'laws.FnExactIsLabel': WHATEVER THE INPUT: true; the input reads as it did. -/
def fnExactIsLabelSpec : ChangeSpec := { name := "fnExactIsLabel", fn := fun _ => fun
  | [d] => { results := [.lit (.bool true)], args := [d] }
  | _ => none }
def fnExactIsLabelRow : OpenClaim := { program := "yteiegfcdcpoenaa", sum := "8d0f8cb6e2aaf5192fad25e257c28ca00196d7603b1ef66371d2d4903bab9ad4", func := "loop.example/sessiontypes/laws.FnExactIsLabel", spec := "fnExactIsLabel", inPlace := ["internal/bytealg.IndexByteString", "internal/bytealg.IndexString"], named := ["internal/bytealg.MaxLen"], plainKeys := false, apart := false }
def FnExactIsLabelSaid : Prop := fnExactIsLabelRow.holds Try.pinned (OpenSpec.ofChange fnExactIsLabelSpec)

/-- ITS FALSE NEIGHBOUR: 'it returns false'. Refute it at one input. -/
def fnExactIsLabelWrong : ChangeSpec := { name := "fnExactIsLabel", fn := fun _ => fun
  | [d] => { results := [.lit (.bool false)], args := [d] }
  | _ => none }
def FnExactIsLabelWrongFalsely : Prop := fnExactIsLabelRow.holds Try.pinned (OpenSpec.ofChange fnExactIsLabelWrong)

/-- 'laws.FnExactGlobalValid': WHATEVER THE INPUT: true; the input reads as it did. -/
def fnExactGlobalValidSpec : ChangeSpec := { name := "fnExactGlobalValid", fn := fun _ => fun
  | [d] => { results := [.lit (.bool true)], args := [d] }
  | _ => none }
def fnExactGlobalValidRow : OpenClaim := { program := "yteiegfcdcpoenaa", sum := "8d0f8cb6e2aaf5192fad25e257c28ca00196d7603b1ef66371d2d4903bab9ad4", func := "loop.example/sessiontypes/laws.FnExactGlobalValid", spec := "fnExactGlobalValid", inPlace := ["internal/bytealg.IndexByteString", "internal/bytealg.IndexString"], unfollowed := true, recurses := true, named := ["internal/bytealg.MaxLen"], loops := true, plainKeys := false, apart := false }
def FnExactGlobalValidSaid : Prop := fnExactGlobalValidRow.holds Try.pinned (OpenSpec.ofChange fnExactGlobalValidSpec)

/-- ITS FALSE NEIGHBOUR: 'it returns false'. Refute it at one input. -/
def fnExactGlobalValidWrong : ChangeSpec := { name := "fnExactGlobalValid", fn := fun _ => fun
  | [d] => { results := [.lit (.bool false)], args := [d] }
  | _ => none }
def FnExactGlobalValidWrongFalsely : Prop := fnExactGlobalValidRow.holds Try.pinned (OpenSpec.ofChange fnExactGlobalValidWrong)

/-- 'laws.FnExactGlobalNodes': WHATEVER THE INPUT: true; the input reads as it did. -/
def fnExactGlobalNodesSpec : ChangeSpec := { name := "fnExactGlobalNodes", fn := fun _ => fun
  | [d] => { results := [.lit (.bool true)], args := [d] }
  | _ => none }
def fnExactGlobalNodesRow : OpenClaim := { program := "yteiegfcdcpoenaa", sum := "8d0f8cb6e2aaf5192fad25e257c28ca00196d7603b1ef66371d2d4903bab9ad4", func := "loop.example/sessiontypes/laws.FnExactGlobalNodes", spec := "fnExactGlobalNodes", inPlace := ["internal/bytealg.IndexByteString", "internal/bytealg.IndexString"], unfollowed := true, recurses := true, named := ["internal/bytealg.MaxLen"], loops := true, plainKeys := false, apart := false }
def FnExactGlobalNodesSaid : Prop := fnExactGlobalNodesRow.holds Try.pinned (OpenSpec.ofChange fnExactGlobalNodesSpec)

/-- ITS FALSE NEIGHBOUR: 'it returns false'. Refute it at one input. -/
def fnExactGlobalNodesWrong : ChangeSpec := { name := "fnExactGlobalNodes", fn := fun _ => fun
  | [d] => { results := [.lit (.bool false)], args := [d] }
  | _ => none }
def FnExactGlobalNodesWrongFalsely : Prop := fnExactGlobalNodesRow.holds Try.pinned (OpenSpec.ofChange fnExactGlobalNodesWrong)

/-- 'laws.FnExactGlobalEqual': WHATEVER THE INPUT: true; the input reads as it did. -/
def fnExactGlobalEqualSpec : ChangeSpec := { name := "fnExactGlobalEqual", fn := fun _ => fun
  | [d1, d2] => { results := [.lit (.bool true)], args := [d1, d2] }
  | _ => none }
def fnExactGlobalEqualRow : OpenClaim := { program := "yteiegfcdcpoenaa", sum := "8d0f8cb6e2aaf5192fad25e257c28ca00196d7603b1ef66371d2d4903bab9ad4", func := "loop.example/sessiontypes/laws.FnExactGlobalEqual", spec := "fnExactGlobalEqual", unfollowed := true, recurses := true, loops := true, plainKeys := false, apart := false }
def FnExactGlobalEqualSaid : Prop := fnExactGlobalEqualRow.holds Try.pinned (OpenSpec.ofChange fnExactGlobalEqualSpec)

/-- ITS FALSE NEIGHBOUR: 'it returns false'. Refute it at one input. -/
def fnExactGlobalEqualWrong : ChangeSpec := { name := "fnExactGlobalEqual", fn := fun _ => fun
  | [d1, d2] => { results := [.lit (.bool false)], args := [d1, d2] }
  | _ => none }
def FnExactGlobalEqualWrongFalsely : Prop := fnExactGlobalEqualRow.holds Try.pinned (OpenSpec.ofChange fnExactGlobalEqualWrong)

/- THE SECOND FORM. 'bulk': how many values and letters a reading holds, each counted each time it is reached (what is shared counts as often as it is met; a slice's spare places count too). A statement '..UptoSaid' is the law's where the arguments, and the package variables that the reading takes, are together of bulk at most 1048576: NARROWER than '..Said'. Prove '..Said' where nothing that the law and all that it calls make is longer than what came in: it says more and counts as full. Else prove '..UptoSaid'. A law counts once. -/
mutual
def uptoBulk {H : Type} : DataW H → Nat
  | .lit (.string bytes) => bytes.length + 1
  | .lit _ => 1
  | .nil => 1
  | .ptr d => uptoBulk d + 1
  | .slice elems spare => uptoBulkAll elems + uptoBulkAll spare + 1
  | .agg parts => uptoBulkAll parts + 1
  | .iface _ d => uptoBulk d + 1
  | .map entries => uptoBulkEntries entries + 1
  | .held _ => 1
def uptoBulkAll {H : Type} : List (DataW H) → Nat
  | [] => 0
  | d :: r => uptoBulk d + uptoBulkAll r
def uptoBulkEntries {H : Type} : List (Lit × DataW H) → Nat
  | [] => 0
  | x :: r => uptoBulkEntry x + uptoBulkEntries r
def uptoBulkEntry {H : Type} : Lit × DataW H → Nat
  | (.string bytes, d) => bytes.length + uptoBulk d + 1
  | (_, d) => uptoBulk d + 1
 end
def uptoSmall : (H : Type) → List (DataW H) → Bool := fun _ ds => decide (uptoBulkAll ds ≤ 1048576)
def OpenSpec.upto (s : _root_.Go.ChangeSpec) : _root_.Go.OpenSpec := { _root_.Go.OpenSpec.ofChange s with cond := some uptoSmall }

/-- 'laws.FnLocalEquivalence', WHERE WHAT IT READS IS OF BULK AT MOST 1048576: true; the input reads as it did. -/
def fnLocalEquivalenceUptoRow : OpenClaim := { program := "yteiegfcdcpoenaa", sum := "8d0f8cb6e2aaf5192fad25e257c28ca00196d7603b1ef66371d2d4903bab9ad4", func := "loop.example/sessiontypes/laws.FnLocalEquivalence", spec := "fnLocalEquivalence", inPlace := ["internal/bytealg.IndexByteString", "internal/bytealg.IndexString"], unfollowed := true, recurses := true, named := ["internal/bytealg.MaxLen"], plainKeys := false, apart := false, narrowed := true }
def FnLocalEquivalenceUptoSaid : Prop := fnLocalEquivalenceUptoRow.holds Try.pinned (OpenSpec.upto fnLocalEquivalenceSpec)

/-- 'laws.FnSubtypePreorder', WHERE WHAT IT READS IS OF BULK AT MOST 1048576: true; the input reads as it did. -/
def fnSubtypePreorderUptoRow : OpenClaim := { program := "yteiegfcdcpoenaa", sum := "8d0f8cb6e2aaf5192fad25e257c28ca00196d7603b1ef66371d2d4903bab9ad4", func := "loop.example/sessiontypes/laws.FnSubtypePreorder", spec := "fnSubtypePreorder", inPlace := ["internal/bytealg.IndexByteString", "internal/bytealg.IndexString"], unfollowed := true, recurses := true, named := ["internal/bytealg.MaxLen"], plainKeys := false, apart := false, narrowed := true }
def FnSubtypePreorderUptoSaid : Prop := fnSubtypePreorderUptoRow.holds Try.pinned (OpenSpec.upto fnSubtypePreorderSpec)

/-- 'laws.FnSubtypeStep', WHERE WHAT IT READS IS OF BULK AT MOST 1048576: true; the input reads as it did. -/
def fnSubtypeStepUptoRow : OpenClaim := { program := "yteiegfcdcpoenaa", sum := "8d0f8cb6e2aaf5192fad25e257c28ca00196d7603b1ef66371d2d4903bab9ad4", func := "loop.example/sessiontypes/laws.FnSubtypeStep", spec := "fnSubtypeStep", inPlace := ["internal/bytealg.IndexByteString", "internal/bytealg.IndexString"], unfollowed := true, recurses := true, named := ["internal/bytealg.MaxLen"], plainKeys := false, apart := false, narrowed := true }
def FnSubtypeStepUptoSaid : Prop := fnSubtypeStepUptoRow.holds Try.pinned (OpenSpec.upto fnSubtypeStepSpec)

/-- 'laws.FnSubtypeSend', WHERE WHAT IT READS IS OF BULK AT MOST 1048576: true; the input reads as it did. -/
def fnSubtypeSendUptoRow : OpenClaim := { program := "yteiegfcdcpoenaa", sum := "8d0f8cb6e2aaf5192fad25e257c28ca00196d7603b1ef66371d2d4903bab9ad4", func := "loop.example/sessiontypes/laws.FnSubtypeSend", spec := "fnSubtypeSend", inPlace := ["internal/bytealg.IndexByteString", "internal/bytealg.IndexString"], unfollowed := true, recurses := true, named := ["internal/bytealg.MaxLen"], plainKeys := false, apart := false, narrowed := true }
def FnSubtypeSendUptoSaid : Prop := fnSubtypeSendUptoRow.holds Try.pinned (OpenSpec.upto fnSubtypeSendSpec)

/-- 'laws.FnSubtypeReceive', WHERE WHAT IT READS IS OF BULK AT MOST 1048576: true; the input reads as it did. -/
def fnSubtypeReceiveUptoRow : OpenClaim := { program := "yteiegfcdcpoenaa", sum := "8d0f8cb6e2aaf5192fad25e257c28ca00196d7603b1ef66371d2d4903bab9ad4", func := "loop.example/sessiontypes/laws.FnSubtypeReceive", spec := "fnSubtypeReceive", inPlace := ["internal/bytealg.IndexByteString", "internal/bytealg.IndexString"], unfollowed := true, recurses := true, named := ["internal/bytealg.MaxLen"], plainKeys := false, apart := false, narrowed := true }
def FnSubtypeReceiveUptoSaid : Prop := fnSubtypeReceiveUptoRow.holds Try.pinned (OpenSpec.upto fnSubtypeReceiveSpec)

/-- 'laws.FnExactIsRole', WHERE WHAT IT READS IS OF BULK AT MOST 1048576: true; the input reads as it did. -/
def fnExactIsRoleUptoRow : OpenClaim := { program := "yteiegfcdcpoenaa", sum := "8d0f8cb6e2aaf5192fad25e257c28ca00196d7603b1ef66371d2d4903bab9ad4", func := "loop.example/sessiontypes/laws.FnExactIsRole", spec := "fnExactIsRole", inPlace := ["internal/bytealg.IndexByteString", "internal/bytealg.IndexString"], named := ["internal/bytealg.MaxLen"], plainKeys := false, apart := false, narrowed := true }
def FnExactIsRoleUptoSaid : Prop := fnExactIsRoleUptoRow.holds Try.pinned (OpenSpec.upto fnExactIsRoleSpec)

/-- 'laws.FnExactIsLabel', WHERE WHAT IT READS IS OF BULK AT MOST 1048576: true; the input reads as it did. -/
def fnExactIsLabelUptoRow : OpenClaim := { program := "yteiegfcdcpoenaa", sum := "8d0f8cb6e2aaf5192fad25e257c28ca00196d7603b1ef66371d2d4903bab9ad4", func := "loop.example/sessiontypes/laws.FnExactIsLabel", spec := "fnExactIsLabel", inPlace := ["internal/bytealg.IndexByteString", "internal/bytealg.IndexString"], named := ["internal/bytealg.MaxLen"], plainKeys := false, apart := false, narrowed := true }
def FnExactIsLabelUptoSaid : Prop := fnExactIsLabelUptoRow.holds Try.pinned (OpenSpec.upto fnExactIsLabelSpec)

/-- 'laws.FnExactGlobalValid', WHERE WHAT IT READS IS OF BULK AT MOST 1048576: true; the input reads as it did. -/
def fnExactGlobalValidUptoRow : OpenClaim := { program := "yteiegfcdcpoenaa", sum := "8d0f8cb6e2aaf5192fad25e257c28ca00196d7603b1ef66371d2d4903bab9ad4", func := "loop.example/sessiontypes/laws.FnExactGlobalValid", spec := "fnExactGlobalValid", inPlace := ["internal/bytealg.IndexByteString", "internal/bytealg.IndexString"], unfollowed := true, recurses := true, named := ["internal/bytealg.MaxLen"], loops := true, plainKeys := false, apart := false, narrowed := true }
def FnExactGlobalValidUptoSaid : Prop := fnExactGlobalValidUptoRow.holds Try.pinned (OpenSpec.upto fnExactGlobalValidSpec)

/-- 'laws.FnExactGlobalNodes', WHERE WHAT IT READS IS OF BULK AT MOST 1048576: true; the input reads as it did. -/
def fnExactGlobalNodesUptoRow : OpenClaim := { program := "yteiegfcdcpoenaa", sum := "8d0f8cb6e2aaf5192fad25e257c28ca00196d7603b1ef66371d2d4903bab9ad4", func := "loop.example/sessiontypes/laws.FnExactGlobalNodes", spec := "fnExactGlobalNodes", inPlace := ["internal/bytealg.IndexByteString", "internal/bytealg.IndexString"], unfollowed := true, recurses := true, named := ["internal/bytealg.MaxLen"], loops := true, plainKeys := false, apart := false, narrowed := true }
def FnExactGlobalNodesUptoSaid : Prop := fnExactGlobalNodesUptoRow.holds Try.pinned (OpenSpec.upto fnExactGlobalNodesSpec)

/-- 'laws.FnExactGlobalEqual', WHERE WHAT IT READS IS OF BULK AT MOST 1048576: true; the input reads as it did. -/
def fnExactGlobalEqualUptoRow : OpenClaim := { program := "yteiegfcdcpoenaa", sum := "8d0f8cb6e2aaf5192fad25e257c28ca00196d7603b1ef66371d2d4903bab9ad4", func := "loop.example/sessiontypes/laws.FnExactGlobalEqual", spec := "fnExactGlobalEqual", unfollowed := true, recurses := true, loops := true, plainKeys := false, apart := false, narrowed := true }
def FnExactGlobalEqualUptoSaid : Prop := fnExactGlobalEqualUptoRow.holds Try.pinned (OpenSpec.upto fnExactGlobalEqualSpec)

end Rows
end Go.Proofs.Yteiegfcdcpoenaa
