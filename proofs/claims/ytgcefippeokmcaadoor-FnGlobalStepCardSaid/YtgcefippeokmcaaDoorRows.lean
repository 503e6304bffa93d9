/-
  NARROWER THAN 'FOR EVERY INPUT', by the rows' own cells (each row's printed sentence says how): FnLocalUnfold: laid · FnLocalPeers: laid · FnLocalText: laid · FnGlobalUnfold: laid · FnGlobalStep: laid · FnGlobalRoles: laid · FnGlobalEqual: laid · FnGlobalInvalid: laid · FnGlobalPrefix: laid · FnGlobalText: laid.
  DERIVED. THE GIVEN ROWS OF THIS SEAT. 10 by the template 'for every input the law returns true; each argument reads behind the call as it read before'; 0 by the template 'total and deterministic' (their statements: YtgcefippeokmcaaDoorTotals.lean).
  GIVEN WITH THE SEED: the statements are not yours to turn. If you find one false, say at which input.
  Laid BY PROGRAM, IN A SANDBOX (cutbox-rows.mjs): the forced cells as the released guide's own fill.sh prints them over the translation 6913d61d12a93687… (all of the seat's roots in one cut). By AI agents, Wed Nov 11 2026. No macro, syntax, notation, axiom, sorry.
-/
import Derived.Test.YtgcefippeokmcaaDoorChecked
import GoSem.Claim
import GoSem.ClaimJoined
import GoSem.ClaimMapViews
import Derived.JoinedTies
import Derived.KernelRfl
namespace Go.Proofs.YtgcefippeokmcaaDoor
/- THE CELL 'sum', in the pinned program and in every row, IS THE sha256 OF THE DUMP (.gsa) THAT YtgcefippeokmcaaDoorProg.lean LOADS. Nothing in Lean hashes anything: it is a label: what it is worth is what the hold of that sum in a sandbox is worth. -/
noncomputable def Tryd.pinned : Pinned := { name := "ytgcefippeokmcaadoor", sum := "6913d61d12a93687ba3a46a4d3a48caf020fc12b015c2993cb13021e70d73640", checked := Tryd.checked }
namespace Rows
def none {H : Type} : Left H := { results := [], args := [] }

/- WHAT THE LISTED PACKAGE-LEVEL VARIABLES READ AS WHEN THE CALL BEGINS. Each datum BY PROGRAM (the guide's laid-datum.mjs) off the statement by which the dump's own 'gosem.cut.vars' lays the variable. In a bare row this is a premise. The card (YtgcefippeokmcaaDoorCards.lean) ties it to the program's text. -/
def laid_math_bits_deBruijn32tab {H : Type} : DataW H := .agg [.lit (.int .u8 0), .lit (.int .u8 1), .lit (.int .u8 28), .lit (.int .u8 2), .lit (.int .u8 29), .lit (.int .u8 14), .lit (.int .u8 24), .lit (.int .u8 3), .lit (.int .u8 30), .lit (.int .u8 22), .lit (.int .u8 20), .lit (.int .u8 15), .lit (.int .u8 25), .lit (.int .u8 17), .lit (.int .u8 4), .lit (.int .u8 8), .lit (.int .u8 31), .lit (.int .u8 27), .lit (.int .u8 13), .lit (.int .u8 23), .lit (.int .u8 21), .lit (.int .u8 19), .lit (.int .u8 16), .lit (.int .u8 7), .lit (.int .u8 26), .lit (.int .u8 12), .lit (.int .u8 18), .lit (.int .u8 6), .lit (.int .u8 11), .lit (.int .u8 5), .lit (.int .u8 10), .lit (.int .u8 9)]
def laid_math_bits_deBruijn64tab {H : Type} : DataW H := .agg [.lit (.int .u8 0), .lit (.int .u8 1), .lit (.int .u8 56), .lit (.int .u8 2), .lit (.int .u8 57), .lit (.int .u8 49), .lit (.int .u8 28), .lit (.int .u8 3), .lit (.int .u8 61), .lit (.int .u8 58), .lit (.int .u8 42), .lit (.int .u8 50), .lit (.int .u8 38), .lit (.int .u8 29), .lit (.int .u8 17), .lit (.int .u8 4), .lit (.int .u8 62), .lit (.int .u8 47), .lit (.int .u8 59), .lit (.int .u8 36), .lit (.int .u8 45), .lit (.int .u8 43), .lit (.int .u8 51), .lit (.int .u8 22), .lit (.int .u8 53), .lit (.int .u8 39), .lit (.int .u8 33), .lit (.int .u8 30), .lit (.int .u8 24), .lit (.int .u8 18), .lit (.int .u8 12), .lit (.int .u8 5), .lit (.int .u8 63), .lit (.int .u8 55), .lit (.int .u8 48), .lit (.int .u8 27), .lit (.int .u8 60), .lit (.int .u8 41), .lit (.int .u8 37), .lit (.int .u8 16), .lit (.int .u8 46), .lit (.int .u8 35), .lit (.int .u8 44), .lit (.int .u8 21), .lit (.int .u8 52), .lit (.int .u8 32), .lit (.int .u8 23), .lit (.int .u8 11), .lit (.int .u8 54), .lit (.int .u8 26), .lit (.int .u8 40), .lit (.int .u8 15), .lit (.int .u8 34), .lit (.int .u8 20), .lit (.int .u8 31), .lit (.int .u8 10), .lit (.int .u8 25), .lit (.int .u8 14), .lit (.int .u8 19), .lit (.int .u8 9), .lit (.int .u8 13), .lit (.int .u8 8), .lit (.int .u8 7), .lit (.int .u8 6)]
def laid_internal_strconv_uint64pow10 {H : Type} : DataW H := .agg [.lit (.int .u64 1), .lit (.int .u64 10), .lit (.int .u64 100), .lit (.int .u64 1000), .lit (.int .u64 10000), .lit (.int .u64 100000), .lit (.int .u64 1000000), .lit (.int .u64 10000000), .lit (.int .u64 100000000), .lit (.int .u64 1000000000), .lit (.int .u64 10000000000), .lit (.int .u64 100000000000), .lit (.int .u64 1000000000000), .lit (.int .u64 10000000000000), .lit (.int .u64 100000000000000), .lit (.int .u64 1000000000000000), .lit (.int .u64 10000000000000000), .lit (.int .u64 100000000000000000), .lit (.int .u64 1000000000000000000), .lit (.int .u64 10000000000000000000)]

/-- 'laws.FnLocalUnfold': WHATEVER THE INPUT: true; the input reads as it did. -/
def fnLocalUnfoldSpec : ChangeSpec := { name := "fnLocalUnfold", fn := fun _ => fun
  | [d] => { results := [.lit (.bool true)], args := [d] }
  | _ => none }
def fnLocalUnfoldRow : OpenClaim := { program := "ytgcefippeokmcaadoor", sum := "6913d61d12a93687ba3a46a4d3a48caf020fc12b015c2993cb13021e70d73640", func := "loop.example/sessiontypes/laws.FnLocalUnfold", spec := "fnLocalUnfold", inPlace := ["internal/bytealg.IndexByteString", "internal/bytealg.IndexString", "internal/abi.NoEscape"], unfollowed := true, recurses := true, named := ["internal/bytealg.MaxLen", "internal/strconv.uint64pow10", "math/bits.deBruijn32tab", "math/bits.deBruijn64tab"], plainKeys := false, apart := false, laid := [("math/bits.deBruijn32tab", laid_math_bits_deBruijn32tab), ("math/bits.deBruijn64tab", laid_math_bits_deBruijn64tab), ("internal/strconv.uint64pow10", laid_internal_strconv_uint64pow10)] }
def FnLocalUnfoldSaid : Prop := fnLocalUnfoldRow.holds Tryd.pinned (OpenSpec.ofChange fnLocalUnfoldSpec)

/-- ITS FALSE NEIGHBOUR: 'it returns false'. Refute it at one input. -/
def fnLocalUnfoldWrong : ChangeSpec := { name := "fnLocalUnfold", fn := fun _ => fun
  | [d] => { results := [.lit (.bool false)], args := [d] }
  | _ => none }
def FnLocalUnfoldWrongFalsely : Prop := fnLocalUnfoldRow.holds Tryd.pinned (OpenSpec.ofChange fnLocalUnfoldWrong)

/-- 'laws.FnLocalPeers': WHATEVER THE INPUT: true; the input reads as it did. -/
def fnLocalPeersSpec : ChangeSpec := { name := "fnLocalPeers", fn := fun _ => fun
  | [d] => { results := [.lit (.bool true)], args := [d] }
  | _ => none }
def fnLocalPeersRow : OpenClaim := { program := "ytgcefippeokmcaadoor", sum := "6913d61d12a93687ba3a46a4d3a48caf020fc12b015c2993cb13021e70d73640", func := "loop.example/sessiontypes/laws.FnLocalPeers", spec := "fnLocalPeers", inPlace := ["internal/bytealg.IndexByteString", "internal/bytealg.IndexString", "internal/abi.NoEscape"], unfollowed := true, recurses := true, named := ["internal/bytealg.MaxLen", "internal/strconv.uint64pow10", "math/bits.deBruijn32tab", "math/bits.deBruijn64tab"], plainKeys := false, apart := false, laid := [("math/bits.deBruijn32tab", laid_math_bits_deBruijn32tab), ("math/bits.deBruijn64tab", laid_math_bits_deBruijn64tab), ("internal/strconv.uint64pow10", laid_internal_strconv_uint64pow10)] }
def FnLocalPeersSaid : Prop := fnLocalPeersRow.holds Tryd.pinned (OpenSpec.ofChange fnLocalPeersSpec)

/-- ITS FALSE NEIGHBOUR: 'it returns false'. Refute it at one input. -/
def fnLocalPeersWrong : ChangeSpec := { name := "fnLocalPeers", fn := fun _ => fun
  | [d] => { results := [.lit (.bool false)], args := [d] }
  | _ => none }
def FnLocalPeersWrongFalsely : Prop := fnLocalPeersRow.holds Tryd.pinned (OpenSpec.ofChange fnLocalPeersWrong)

/-- 'laws.FnLocalText': WHATEVER THE INPUT: true; the input reads as it did. -/
def fnLocalTextSpec : ChangeSpec := { name := "fnLocalText", fn := fun _ => fun
  | [d1, d2] => { results := [.lit (.bool true)], args := [d1, d2] }
  | _ => none }
def fnLocalTextRow : OpenClaim := { program := "ytgcefippeokmcaadoor", sum := "6913d61d12a93687ba3a46a4d3a48caf020fc12b015c2993cb13021e70d73640", func := "loop.example/sessiontypes/laws.FnLocalText", spec := "fnLocalText", inPlace := ["internal/bytealg.IndexByteString", "internal/bytealg.IndexString", "internal/abi.NoEscape"], unfollowed := true, recurses := true, named := ["internal/bytealg.MaxLen", "internal/strconv.uint64pow10", "math/bits.deBruijn32tab", "math/bits.deBruijn64tab"], plainKeys := false, apart := false, laid := [("math/bits.deBruijn32tab", laid_math_bits_deBruijn32tab), ("math/bits.deBruijn64tab", laid_math_bits_deBruijn64tab), ("internal/strconv.uint64pow10", laid_internal_strconv_uint64pow10)] }
def FnLocalTextSaid : Prop := fnLocalTextRow.holds Tryd.pinned (OpenSpec.ofChange fnLocalTextSpec)

/-- ITS FALSE NEIGHBOUR: 'it returns false'. Refute it at one input. -/
def fnLocalTextWrong : ChangeSpec := { name := "fnLocalText", fn := fun _ => fun
  | [d1, d2] => { results := [.lit (.bool false)], args := [d1, d2] }
  | _ => none }
def FnLocalTextWrongFalsely : Prop := fnLocalTextRow.holds Tryd.pinned (OpenSpec.ofChange fnLocalTextWrong)

/-- 'laws.FnGlobalUnfold': WHATEVER THE INPUT: true; the input reads as it did. -/
def fnGlobalUnfoldSpec : ChangeSpec := { name := "fnGlobalUnfold", fn := fun _ => fun
  | [d] => { results := [.lit (.bool true)], args := [d] }
  | _ => none }
def fnGlobalUnfoldRow : OpenClaim := { program := "ytgcefippeokmcaadoor", sum := "6913d61d12a93687ba3a46a4d3a48caf020fc12b015c2993cb13021e70d73640", func := "loop.example/sessiontypes/laws.FnGlobalUnfold", spec := "fnGlobalUnfold", inPlace := ["internal/bytealg.IndexByteString", "internal/bytealg.IndexString", "internal/abi.NoEscape"], unfollowed := true, recurses := true, named := ["internal/bytealg.MaxLen", "internal/strconv.uint64pow10", "math/bits.deBruijn32tab", "math/bits.deBruijn64tab"], plainKeys := false, apart := false, laid := [("math/bits.deBruijn32tab", laid_math_bits_deBruijn32tab), ("math/bits.deBruijn64tab", laid_math_bits_deBruijn64tab), ("internal/strconv.uint64pow10", laid_internal_strconv_uint64pow10)] }
def FnGlobalUnfoldSaid : Prop := fnGlobalUnfoldRow.holds Tryd.pinned (OpenSpec.ofChange fnGlobalUnfoldSpec)

/-- ITS FALSE NEIGHBOUR: 'it returns false'. Refute it at one input. -/
def fnGlobalUnfoldWrong : ChangeSpec := { name := "fnGlobalUnfold", fn := fun _ => fun
  | [d] => { results := [.lit (.bool false)], args := [d] }
  | _ => none }
def FnGlobalUnfoldWrongFalsely : Prop := fnGlobalUnfoldRow.holds Tryd.pinned (OpenSpec.ofChange fnGlobalUnfoldWrong)

/-- 'laws.FnGlobalStep': WHATEVER THE INPUT: true; the input reads as it did. -/
def fnGlobalStepSpec : ChangeSpec := { name := "fnGlobalStep", fn := fun _ => fun
  | [d] => { results := [.lit (.bool true)], args := [d] }
  | _ => none }
def fnGlobalStepRow : OpenClaim := { program := "ytgcefippeokmcaadoor", sum := "6913d61d12a93687ba3a46a4d3a48caf020fc12b015c2993cb13021e70d73640", func := "loop.example/sessiontypes/laws.FnGlobalStep", spec := "fnGlobalStep", inPlace := ["internal/bytealg.IndexByteString", "internal/bytealg.IndexString", "internal/abi.NoEscape"], unfollowed := true, recurses := true, named := ["internal/bytealg.MaxLen", "internal/strconv.uint64pow10", "math/bits.deBruijn32tab", "math/bits.deBruijn64tab"], plainKeys := false, apart := false, laid := [("math/bits.deBruijn32tab", laid_math_bits_deBruijn32tab), ("math/bits.deBruijn64tab", laid_math_bits_deBruijn64tab), ("internal/strconv.uint64pow10", laid_internal_strconv_uint64pow10)] }
def FnGlobalStepSaid : Prop := fnGlobalStepRow.holds Tryd.pinned (OpenSpec.ofChange fnGlobalStepSpec)

/-- ITS FALSE NEIGHBOUR: 'it returns false'. Refute it at one input. -/
def fnGlobalStepWrong : ChangeSpec := { name := "fnGlobalStep", fn := fun _ => fun
  | [d] => { results := [.lit (.bool false)], args := [d] }
  | _ => none }
def FnGlobalStepWrongFalsely : Prop := fnGlobalStepRow.holds Tryd.pinned (OpenSpec.ofChange fnGlobalStepWrong)

/-- 'laws.FnGlobalRoles': WHATEVER THE INPUT: true; the input reads as it did. -/
def fnGlobalRolesSpec : ChangeSpec := { name := "fnGlobalRoles", fn := fun _ => fun
  | [d] => { results := [.lit (.bool true)], args := [d] }
  | _ => none }
def fnGlobalRolesRow : OpenClaim := { program := "ytgcefippeokmcaadoor", sum := "6913d61d12a93687ba3a46a4d3a48caf020fc12b015c2993cb13021e70d73640", func := "loop.example/sessiontypes/laws.FnGlobalRoles", spec := "fnGlobalRoles", inPlace := ["internal/bytealg.IndexByteString", "internal/bytealg.IndexString", "internal/abi.NoEscape"], unfollowed := true, recurses := true, named := ["internal/bytealg.MaxLen", "internal/strconv.uint64pow10", "math/bits.deBruijn32tab", "math/bits.deBruijn64tab"], plainKeys := false, apart := false, laid := [("math/bits.deBruijn32tab", laid_math_bits_deBruijn32tab), ("math/bits.deBruijn64tab", laid_math_bits_deBruijn64tab), ("internal/strconv.uint64pow10", laid_internal_strconv_uint64pow10)] }
def FnGlobalRolesSaid : Prop := fnGlobalRolesRow.holds Tryd.pinned (OpenSpec.ofChange fnGlobalRolesSpec)

/-- ITS FALSE NEIGHBOUR: 'it returns false'. Refute it at one input. -/
def fnGlobalRolesWrong : ChangeSpec := { name := "fnGlobalRoles", fn := fun _ => fun
  | [d] => { results := [.lit (.bool false)], args := [d] }
  | _ => none }
def FnGlobalRolesWrongFalsely : Prop := fnGlobalRolesRow.holds Tryd.pinned (OpenSpec.ofChange fnGlobalRolesWrong)

/-- 'laws.FnGlobalEqual': WHATEVER THE INPUT: true; the input reads as it did. -/
def fnGlobalEqualSpec : ChangeSpec := { name := "fnGlobalEqual", fn := fun _ => fun
  | [d] => { results := [.lit (.bool true)], args := [d] }
  | _ => none }
def fnGlobalEqualRow : OpenClaim := { program := "ytgcefippeokmcaadoor", sum := "6913d61d12a93687ba3a46a4d3a48caf020fc12b015c2993cb13021e70d73640", func := "loop.example/sessiontypes/laws.FnGlobalEqual", spec := "fnGlobalEqual", inPlace := ["internal/bytealg.IndexByteString", "internal/bytealg.IndexString", "internal/abi.NoEscape"], unfollowed := true, recurses := true, named := ["internal/bytealg.MaxLen", "internal/strconv.uint64pow10", "math/bits.deBruijn32tab", "math/bits.deBruijn64tab"], plainKeys := false, apart := false, laid := [("math/bits.deBruijn32tab", laid_math_bits_deBruijn32tab), ("math/bits.deBruijn64tab", laid_math_bits_deBruijn64tab), ("internal/strconv.uint64pow10", laid_internal_strconv_uint64pow10)] }
def FnGlobalEqualSaid : Prop := fnGlobalEqualRow.holds Tryd.pinned (OpenSpec.ofChange fnGlobalEqualSpec)

/-- ITS FALSE NEIGHBOUR: 'it returns false'. Refute it at one input. -/
def fnGlobalEqualWrong : ChangeSpec := { name := "fnGlobalEqual", fn := fun _ => fun
  | [d] => { results := [.lit (.bool false)], args := [d] }
  | _ => none }
def FnGlobalEqualWrongFalsely : Prop := fnGlobalEqualRow.holds Tryd.pinned (OpenSpec.ofChange fnGlobalEqualWrong)

/-- 'laws.FnGlobalInvalid': WHATEVER THE INPUT: true; the input reads as it did. -/
def fnGlobalInvalidSpec : ChangeSpec := { name := "fnGlobalInvalid", fn := fun _ => fun
  | [d] => { results := [.lit (.bool true)], args := [d] }
  | _ => none }
def fnGlobalInvalidRow : OpenClaim := { program := "ytgcefippeokmcaadoor", sum := "6913d61d12a93687ba3a46a4d3a48caf020fc12b015c2993cb13021e70d73640", func := "loop.example/sessiontypes/laws.FnGlobalInvalid", spec := "fnGlobalInvalid", inPlace := ["internal/bytealg.IndexByteString", "internal/bytealg.IndexString", "internal/abi.NoEscape"], unfollowed := true, recurses := true, named := ["internal/bytealg.MaxLen", "internal/strconv.uint64pow10", "math/bits.deBruijn32tab", "math/bits.deBruijn64tab"], plainKeys := false, apart := false, laid := [("math/bits.deBruijn32tab", laid_math_bits_deBruijn32tab), ("math/bits.deBruijn64tab", laid_math_bits_deBruijn64tab), ("internal/strconv.uint64pow10", laid_internal_strconv_uint64pow10)] }
def FnGlobalInvalidSaid : Prop := fnGlobalInvalidRow.holds Tryd.pinned (OpenSpec.ofChange fnGlobalInvalidSpec)

/-- ITS FALSE NEIGHBOUR: 'it returns false'. Refute it at one input. -/
def fnGlobalInvalidWrong : ChangeSpec := { name := "fnGlobalInvalid", fn := fun _ => fun
  | [d] => { results := [.lit (.bool false)], args := [d] }
  | _ => none }
def FnGlobalInvalidWrongFalsely : Prop := fnGlobalInvalidRow.holds Tryd.pinned (OpenSpec.ofChange fnGlobalInvalidWrong)

/-- 'laws.FnGlobalPrefix': WHATEVER THE INPUT: true; the input reads as it did. -/
def fnGlobalPrefixSpec : ChangeSpec := { name := "fnGlobalPrefix", fn := fun _ => fun
  | [d] => { results := [.lit (.bool true)], args := [d] }
  | _ => none }
def fnGlobalPrefixRow : OpenClaim := { program := "ytgcefippeokmcaadoor", sum := "6913d61d12a93687ba3a46a4d3a48caf020fc12b015c2993cb13021e70d73640", func := "loop.example/sessiontypes/laws.FnGlobalPrefix", spec := "fnGlobalPrefix", inPlace := ["internal/bytealg.IndexByteString", "internal/bytealg.IndexString", "internal/abi.NoEscape"], unfollowed := true, recurses := true, named := ["internal/bytealg.MaxLen", "internal/strconv.uint64pow10", "math/bits.deBruijn32tab", "math/bits.deBruijn64tab"], plainKeys := false, apart := false, laid := [("math/bits.deBruijn32tab", laid_math_bits_deBruijn32tab), ("math/bits.deBruijn64tab", laid_math_bits_deBruijn64tab), ("internal/strconv.uint64pow10", laid_internal_strconv_uint64pow10)] }
def FnGlobalPrefixSaid : Prop := fnGlobalPrefixRow.holds Tryd.pinned (OpenSpec.ofChange fnGlobalPrefixSpec)

/-- ITS FALSE NEIGHBOUR: 'it returns false'. Refute it at one input. -/
def fnGlobalPrefixWrong : ChangeSpec := { name := "fnGlobalPrefix", fn := fun _ => fun
  | [d] => { results := [.lit (.bool false)], args := [d] }
  | _ => none }
def FnGlobalPrefixWrongFalsely : Prop := fnGlobalPrefixRow.holds Tryd.pinned (OpenSpec.ofChange fnGlobalPrefixWrong)

/-- 'laws.FnGlobalText': WHATEVER THE INPUT: true; the input reads as it did. -/
def fnGlobalTextSpec : ChangeSpec := { name := "fnGlobalText", fn := fun _ => fun
  | [d1, d2] => { results := [.lit (.bool true)], args := [d1, d2] }
  | _ => none }
def fnGlobalTextRow : OpenClaim := { program := "ytgcefippeokmcaadoor", sum := "6913d61d12a93687ba3a46a4d3a48caf020fc12b015c2993cb13021e70d73640", func := "loop.example/sessiontypes/laws.FnGlobalText", spec := "fnGlobalText", inPlace := ["internal/bytealg.IndexByteString", "internal/bytealg.IndexString", "internal/abi.NoEscape"], unfollowed := true, recurses := true, named := ["internal/bytealg.MaxLen", "internal/strconv.uint64pow10", "math/bits.deBruijn32tab", "math/bits.deBruijn64tab"], plainKeys := false, apart := false, laid := [("math/bits.deBruijn32tab", laid_math_bits_deBruijn32tab), ("math/bits.deBruijn64tab", laid_math_bits_deBruijn64tab), ("internal/strconv.uint64pow10", laid_internal_strconv_uint64pow10)] }
def FnGlobalTextSaid : Prop := fnGlobalTextRow.holds Tryd.pinned (OpenSpec.ofChange fnGlobalTextSpec)

/-- ITS FALSE NEIGHBOUR: 'it returns false'. Refute it at one input. -/
def fnGlobalTextWrong : ChangeSpec := { name := "fnGlobalText", fn := fun _ => fun
  | [d1, d2] => { results := [.lit (.bool false)], args := [d1, d2] }
  | _ => none }
def FnGlobalTextWrongFalsely : Prop := fnGlobalTextRow.holds Tryd.pinned (OpenSpec.ofChange fnGlobalTextWrong)

/- THE SECOND FORM. 'bulk': how many values and letters a reading holds, each counted each time it is reached (what is shared counts as often as it is met; a slice's spare places count too). A statement '..UptoSaid' is the law's where the arguments, and the package variables that the reading takes, are together of bulk at most 1048576: NARROWER than '..Said'. Prove '..Said' where nothing that the law and all that it calls make is longer than what came in: it says more and counts as full. Else prove '..UptoSaid'. A law counts once. -/
mutual
def uptoBulk {H : Type} : DataW H → Nat
  | .lit (.string bytes) => bytes.length + 1
  | .lit _ => 1
  | .nil => 1
  | .ptr d => uptoBulk d + 1
  | .slice elems spare => uptoBulkAll elems + uptoBulkAll spare + 1
  | .agg parts => uptoBulkAll parts + 1
  | .iface _ d => uptoBulk d + 1
  | .map entries => uptoBulkEntries entries + 1
  | .held _ => 1
def uptoBulkAll {H : Type} : List (DataW H) → Nat
  | [] => 0
  | d :: r => uptoBulk d + uptoBulkAll r
def uptoBulkEntries {H : Type} : List (Lit × DataW H) → Nat
  | [] => 0
  | x :: r => uptoBulkEntry x + uptoBulkEntries r
def uptoBulkEntry {H : Type} : Lit × DataW H → Nat
  | (.string bytes, d) => bytes.length + uptoBulk d + 1
  | (_, d) => uptoBulk d + 1
 end
def uptoSmall : (H : Type) → List (DataW H) → Bool := fun _ ds => decide (uptoBulkAll ds ≤ 1048576)
def OpenSpec.upto (s : _root_.Go.ChangeSpec) : _root_.Go.OpenSpec := { _root_.Go.OpenSpec.ofChange s with cond := some uptoSmall }

/-- 'laws.FnLocalUnfold', WHERE WHAT IT READS IS OF BULK AT MOST 1048576: true; the input reads as it did. -/
def fnLocalUnfoldUptoRow : OpenClaim := { program := "ytgcefippeokmcaadoor", sum := "6913d61d12a93687ba3a46a4d3a48caf020fc12b015c2993cb13021e70d73640", func := "loop.example/sessiontypes/laws.FnLocalUnfold", spec := "fnLocalUnfold", inPlace := ["internal/bytealg.IndexByteString", "internal/bytealg.IndexString", "internal/abi.NoEscape"], unfollowed := true, recurses := true, named := ["internal/bytealg.MaxLen", "internal/strconv.uint64pow10", "math/bits.deBruijn32tab", "math/bits.deBruijn64tab"], plainKeys := false, apart := false, laid := [("math/bits.deBruijn32tab", laid_math_bits_deBruijn32tab), ("math/bits.deBruijn64tab", laid_math_bits_deBruijn64tab), ("internal/strconv.uint64pow10", laid_internal_strconv_uint64pow10)], narrowed := true }
def FnLocalUnfoldUptoSaid : Prop := fnLocalUnfoldUptoRow.holds Tryd.pinned (OpenSpec.upto fnLocalUnfoldSpec)

/-- 'laws.FnLocalPeers', WHERE WHAT IT READS IS OF BULK AT MOST 1048576: true; the input reads as it did. -/
def fnLocalPeersUptoRow : OpenClaim := { program := "ytgcefippeokmcaadoor", sum := "6913d61d12a93687ba3a46a4d3a48caf020fc12b015c2993cb13021e70d73640", func := "loop.example/sessiontypes/laws.FnLocalPeers", spec := "fnLocalPeers", inPlace := ["internal/bytealg.IndexByteString", "internal/bytealg.IndexString", "internal/abi.NoEscape"], unfollowed := true, recurses := true, named := ["internal/bytealg.MaxLen", "internal/strconv.uint64pow10", "math/bits.deBruijn32tab", "math/bits.deBruijn64tab"], plainKeys := false, apart := false, laid := [("math/bits.deBruijn32tab", laid_math_bits_deBruijn32tab), ("math/bits.deBruijn64tab", laid_math_bits_deBruijn64tab), ("internal/strconv.uint64pow10", laid_internal_strconv_uint64pow10)], narrowed := true }
def FnLocalPeersUptoSaid : Prop := fnLocalPeersUptoRow.holds Tryd.pinned (OpenSpec.upto fnLocalPeersSpec)

/-- 'laws.FnLocalText', WHERE WHAT IT READS IS OF BULK AT MOST 1048576: true; the input reads as it did. -/
def fnLocalTextUptoRow : OpenClaim := { program := "ytgcefippeokmcaadoor", sum := "6913d61d12a93687ba3a46a4d3a48caf020fc12b015c2993cb13021e70d73640", func := "loop.example/sessiontypes/laws.FnLocalText", spec := "fnLocalText", inPlace := ["internal/bytealg.IndexByteString", "internal/bytealg.IndexString", "internal/abi.NoEscape"], unfollowed := true, recurses := true, named := ["internal/bytealg.MaxLen", "internal/strconv.uint64pow10", "math/bits.deBruijn32tab", "math/bits.deBruijn64tab"], plainKeys := false, apart := false, laid := [("math/bits.deBruijn32tab", laid_math_bits_deBruijn32tab), ("math/bits.deBruijn64tab", laid_math_bits_deBruijn64tab), ("internal/strconv.uint64pow10", laid_internal_strconv_uint64pow10)], narrowed := true }
def FnLocalTextUptoSaid : Prop := fnLocalTextUptoRow.holds Tryd.pinned (OpenSpec.upto fnLocalTextSpec)

/-- 'laws.FnGlobalUnfold', WHERE WHAT IT READS IS OF BULK AT MOST 1048576: true; the input reads as it did. -/
def fnGlobalUnfoldUptoRow : OpenClaim := { program := "ytgcefippeokmcaadoor", sum := "6913d61d12a93687ba3a46a4d3a48caf020fc12b015c2993cb13021e70d73640", func := "loop.example/sessiontypes/laws.FnGlobalUnfold", spec := "fnGlobalUnfold", inPlace := ["internal/bytealg.IndexByteString", "internal/bytealg.IndexString", "internal/abi.NoEscape"], unfollowed := true, recurses := true, named := ["internal/bytealg.MaxLen", "internal/strconv.uint64pow10", "math/bits.deBruijn32tab", "math/bits.deBruijn64tab"], plainKeys := false, apart := false, laid := [("math/bits.deBruijn32tab", laid_math_bits_deBruijn32tab), ("math/bits.deBruijn64tab", laid_math_bits_deBruijn64tab), ("internal/strconv.uint64pow10", laid_internal_strconv_uint64pow10)], narrowed := true }
def FnGlobalUnfoldUptoSaid : Prop := fnGlobalUnfoldUptoRow.holds Tryd.pinned (OpenSpec.upto fnGlobalUnfoldSpec)

/-- 'laws.FnGlobalStep', WHERE WHAT IT READS IS OF BULK AT MOST 1048576: true; the input reads as it did. -/
def fnGlobalStepUptoRow : OpenClaim := { program := "ytgcefippeokmcaadoor", sum := "6913d61d12a93687ba3a46a4d3a48caf020fc12b015c2993cb13021e70d73640", func := "loop.example/sessiontypes/laws.FnGlobalStep", spec := "fnGlobalStep", inPlace := ["internal/bytealg.IndexByteString", "internal/bytealg.IndexString", "internal/abi.NoEscape"], unfollowed := true, recurses := true, named := ["internal/bytealg.MaxLen", "internal/strconv.uint64pow10", "math/bits.deBruijn32tab", "math/bits.deBruijn64tab"], plainKeys := false, apart := false, laid := [("math/bits.deBruijn32tab", laid_math_bits_deBruijn32tab), ("math/bits.deBruijn64tab", laid_math_bits_deBruijn64tab), ("internal/strconv.uint64pow10", laid_internal_strconv_uint64pow10)], narrowed := true }
def FnGlobalStepUptoSaid : Prop := fnGlobalStepUptoRow.holds Tryd.pinned (OpenSpec.upto fnGlobalStepSpec)

/-- 'laws.FnGlobalRoles', WHERE WHAT IT READS IS OF BULK AT MOST 1048576: true; the input reads as it did. -/
def fnGlobalRolesUptoRow : OpenClaim := { program := "ytgcefippeokmcaadoor", sum := "6913d61d12a93687ba3a46a4d3a48caf020fc12b015c2993cb13021e70d73640", func := "loop.example/sessiontypes/laws.FnGlobalRoles", spec := "fnGlobalRoles", inPlace := ["internal/bytealg.IndexByteString", "internal/bytealg.IndexString", "internal/abi.NoEscape"], unfollowed := true, recurses := true, named := ["internal/bytealg.MaxLen", "internal/strconv.uint64pow10", "math/bits.deBruijn32tab", "math/bits.deBruijn64tab"], plainKeys := false, apart := false, laid := [("math/bits.deBruijn32tab", laid_math_bits_deBruijn32tab), ("math/bits.deBruijn64tab", laid_math_bits_deBruijn64tab), ("internal/strconv.uint64pow10", laid_internal_strconv_uint64pow10)], narrowed := true }
def FnGlobalRolesUptoSaid : Prop := fnGlobalRolesUptoRow.holds Tryd.pinned (OpenSpec.upto fnGlobalRolesSpec)

/-- 'laws.FnGlobalEqual', WHERE WHAT IT READS IS OF BULK AT MOST 1048576: true; the input reads as it did. -/
def fnGlobalEqualUptoRow : OpenClaim := { program := "ytgcefippeokmcaadoor", sum := "6913d61d12a93687ba3a46a4d3a48caf020fc12b015c2993cb13021e70d73640", func := "loop.example/sessiontypes/laws.FnGlobalEqual", spec := "fnGlobalEqual", inPlace := ["internal/bytealg.IndexByteString", "internal/bytealg.IndexString", "internal/abi.NoEscape"], unfollowed := true, recurses := true, named := ["internal/bytealg.MaxLen", "internal/strconv.uint64pow10", "math/bits.deBruijn32tab", "math/bits.deBruijn64tab"], plainKeys := false, apart := false, laid := [("math/bits.deBruijn32tab", laid_math_bits_deBruijn32tab), ("math/bits.deBruijn64tab", laid_math_bits_deBruijn64tab), ("internal/strconv.uint64pow10", laid_internal_strconv_uint64pow10)], narrowed := true }
def FnGlobalEqualUptoSaid : Prop := fnGlobalEqualUptoRow.holds Tryd.pinned (OpenSpec.upto fnGlobalEqualSpec)

/-- 'laws.FnGlobalInvalid', WHERE WHAT IT READS IS OF BULK AT MOST 1048576: true; the input reads as it did. -/
def fnGlobalInvalidUptoRow : OpenClaim := { program := "ytgcefippeokmcaadoor", sum := "6913d61d12a93687ba3a46a4d3a48caf020fc12b015c2993cb13021e70d73640", func := "loop.example/sessiontypes/laws.FnGlobalInvalid", spec := "fnGlobalInvalid", inPlace := ["internal/bytealg.IndexByteString", "internal/bytealg.IndexString", "internal/abi.NoEscape"], unfollowed := true, recurses := true, named := ["internal/bytealg.MaxLen", "internal/strconv.uint64pow10", "math/bits.deBruijn32tab", "math/bits.deBruijn64tab"], plainKeys := false, apart := false, laid := [("math/bits.deBruijn32tab", laid_math_bits_deBruijn32tab), ("math/bits.deBruijn64tab", laid_math_bits_deBruijn64tab), ("internal/strconv.uint64pow10", laid_internal_strconv_uint64pow10)], narrowed := true }
def FnGlobalInvalidUptoSaid : Prop := fnGlobalInvalidUptoRow.holds Tryd.pinned (OpenSpec.upto fnGlobalInvalidSpec)

/-- 'laws.FnGlobalPrefix', WHERE WHAT IT READS IS OF BULK AT MOST 1048576: true; the input reads as it did. -/
def fnGlobalPrefixUptoRow : OpenClaim := { program := "ytgcefippeokmcaadoor", sum := "6913d61d12a93687ba3a46a4d3a48caf020fc12b015c2993cb13021e70d73640", func := "loop.example/sessiontypes/laws.FnGlobalPrefix", spec := "fnGlobalPrefix", inPlace := ["internal/bytealg.IndexByteString", "internal/bytealg.IndexString", "internal/abi.NoEscape"], unfollowed := true, recurses := true, named := ["internal/bytealg.MaxLen", "internal/strconv.uint64pow10", "math/bits.deBruijn32tab", "math/bits.deBruijn64tab"], plainKeys := false, apart := false, laid := [("math/bits.deBruijn32tab", laid_math_bits_deBruijn32tab), ("math/bits.deBruijn64tab", laid_math_bits_deBruijn64tab), ("internal/strconv.uint64pow10", laid_internal_strconv_uint64pow10)], narrowed := true }
def FnGlobalPrefixUptoSaid : Prop := fnGlobalPrefixUptoRow.holds Tryd.pinned (OpenSpec.upto fnGlobalPrefixSpec)

/-- 'laws.FnGlobalText', WHERE WHAT IT READS IS OF BULK AT MOST 1048576: true; the input reads as it did. -/
def fnGlobalTextUptoRow : OpenClaim := { program := "ytgcefippeokmcaadoor", sum := "6913d61d12a93687ba3a46a4d3a48caf020fc12b015c2993cb13021e70d73640", func := "loop.example/sessiontypes/laws.FnGlobalText", spec := "fnGlobalText", inPlace := ["internal/bytealg.IndexByteString", "internal/bytealg.IndexString", "internal/abi.NoEscape"], unfollowed := true, recurses := true, named := ["internal/bytealg.MaxLen", "internal/strconv.uint64pow10", "math/bits.deBruijn32tab", "math/bits.deBruijn64tab"], plainKeys := false, apart := false, laid := [("math/bits.deBruijn32tab", laid_math_bits_deBruijn32tab), ("math/bits.deBruijn64tab", laid_math_bits_deBruijn64tab), ("internal/strconv.uint64pow10", laid_internal_strconv_uint64pow10)], narrowed := true }
def FnGlobalTextUptoSaid : Prop := fnGlobalTextUptoRow.holds Tryd.pinned (OpenSpec.upto fnGlobalTextSpec)

end Rows
end Go.Proofs.YtgcefippeokmcaaDoor
