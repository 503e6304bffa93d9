/-
  NARROWER THAN 'FOR EVERY INPUT', by the rows' own cells (each row's printed sentence says how): FnExactLocalEquivalent: loops · FnExactIsSubtype: loops · FnExactProcessValid: loops · FnExactProcessEqual: loops.
  DERIVED. THE GIVEN ROWS OF THIS SEAT. 5 by the template 'for every input the law returns true; each argument reads behind the call as it read before'; 0 by the template 'total and deterministic' (their statements: YtfppglfajbmapaaTotals.lean).
  GIVEN WITH THE SEED: the statements are not yours to turn. If you find one false, say at which input.
  Laid BY PROGRAM, IN A SANDBOX (cutbox-rows.mjs): the forced cells as the released guide's own fill.sh prints them over the translation 5973a2cf996806ca… (all of the seat's roots in one cut). By AI agents, Wed Nov 11 2026. No macro, syntax, notation, axiom, sorry.
-/
import Derived.Test.YtfppglfajbmapaaChecked
import GoSem.Claim
import GoSem.ClaimJoined
import GoSem.ClaimMapViews
import Derived.JoinedTies
import Derived.KernelRfl
namespace Go.Proofs.Ytfppglfajbmapaa
/- THE CELL 'sum', in the pinned program and in every row, IS THE sha256 OF THE DUMP (.gsa) THAT YtfppglfajbmapaaProg.lean LOADS. Nothing in Lean hashes anything: it is a label: what it is worth is what the hold of that sum in a sandbox is worth. -/
noncomputable def Try.pinned : Pinned := { name := "ytfppglfajbmapaa", sum := "5973a2cf996806cad26a2086e886bff562c06d305db6c9f312cf6665862a6738", checked := Try.checked }
namespace Rows
def none {H : Type} : Left H := { results := [], args := [] }

/-- 'laws.FnLinkEqual': WHATEVER THE INPUT: true; the input reads as it did. -/
def fnLinkEqualSpec : ChangeSpec := { name := "fnLinkEqual", fn := fun _ => fun
  | [d] => { results := [.lit (.bool true)], args := [d] }
  | _ => none }
def fnLinkEqualRow : OpenClaim := { program := "ytfppglfajbmapaa", sum := "5973a2cf996806cad26a2086e886bff562c06d305db6c9f312cf6665862a6738", func := "loop.example/sessiontypes/laws.FnLinkEqual", spec := "fnLinkEqual", plainKeys := false, apart := false }
def FnLinkEqualSaid : Prop := fnLinkEqualRow.holds Try.pinned (OpenSpec.ofChange fnLinkEqualSpec)

/-- ITS FALSE NEIGHBOUR: 'it returns false'. Refute it at one input. -/
def fnLinkEqualWrong : ChangeSpec := { name := "fnLinkEqual", fn := fun _ => fun
  | [d] => { results := [.lit (.bool false)], args := [d] }
  | _ => none }
def FnLinkEqualWrongFalsely : Prop := fnLinkEqualRow.holds Try.pinned (OpenSpec.ofChange fnLinkEqualWrong)

/-- 'laws.FnExactLocalEquivalent': WHATEVER THE INPUT: true; the input reads as it did. -/
def fnExactLocalEquivalentSpec : ChangeSpec := { name := "fnExactLocalEquivalent", fn := fun _ => fun
  | [d1, d2] => { results := [.lit (.bool true)], args := [d1, d2] }
  | _ => none }
def fnExactLocalEquivalentRow : OpenClaim := { program := "ytfppglfajbmapaa", sum := "5973a2cf996806cad26a2086e886bff562c06d305db6c9f312cf6665862a6738", func := "loop.example/sessiontypes/laws.FnExactLocalEquivalent", spec := "fnExactLocalEquivalent", inPlace := ["internal/bytealg.IndexByteString", "internal/bytealg.IndexString"], unfollowed := true, recurses := true, named := ["internal/bytealg.MaxLen"], loops := true, plainKeys := false, apart := false }
def FnExactLocalEquivalentSaid : Prop := fnExactLocalEquivalentRow.holds Try.pinned (OpenSpec.ofChange fnExactLocalEquivalentSpec)

/-- ITS FALSE NEIGHBOUR: 'it returns false'. Refute it at one input. -/
def fnExactLocalEquivalentWrong : ChangeSpec := { name := "fnExactLocalEquivalent", fn := fun _ => fun
  | [d1, d2] => { results := [.lit (.bool false)], args := [d1, d2] }
  | _ => none }
def FnExactLocalEquivalentWrongFalsely : Prop := fnExactLocalEquivalentRow.holds Try.pinned (OpenSpec.ofChange fnExactLocalEquivalentWrong)

/-- 'laws.FnExactIsSubtype': WHATEVER THE INPUT: true; the input reads as it did. -/
def fnExactIsSubtypeSpec : ChangeSpec := { name := "fnExactIsSubtype", fn := fun _ => fun
  | [d1, d2] => { results := [.lit (.bool true)], args := [d1, d2] }
  | _ => none }
def fnExactIsSubtypeRow : OpenClaim := { program := "ytfppglfajbmapaa", sum := "5973a2cf996806cad26a2086e886bff562c06d305db6c9f312cf6665862a6738", func := "loop.example/sessiontypes/laws.FnExactIsSubtype", spec := "fnExactIsSubtype", inPlace := ["internal/bytealg.IndexByteString", "internal/bytealg.IndexString"], unfollowed := true, recurses := true, named := ["internal/bytealg.MaxLen"], loops := true, plainKeys := false, apart := false }
def FnExactIsSubtypeSaid : Prop := fnExactIsSubtypeRow.holds Try.pinned (OpenSpec.ofChange fnExactIsSubtypeSpec)

/-- ITS FALSE NEIGHBOUR: 'it returns false'. Refute it at one input. -/
def fnExactIsSubtypeWrong : ChangeSpec := { name := "fnExactIsSubtype", fn := fun _ => fun
  | [d1, d2] => { results := [.lit (.bool false)], args := [d1, d2] }
  | _ => none }
def FnExactIsSubtypeWrongFalsely : Prop := fnExactIsSubtypeRow.holds Try.pinned (OpenSpec.ofChange fnExactIsSubtypeWrong)

/-- 'laws.FnExactProcessValid': WHATEVER THE INPUT: true; the input reads as it did. -/
def fnExactProcessValidSpec : ChangeSpec := { name := "fnExactProcessValid", fn := fun _ => fun
  | [d] => { results := [.lit (.bool true)], args := [d] }
  | _ => none }
def fnExactProcessValidRow : OpenClaim := { program := "ytfppglfajbmapaa", sum := "5973a2cf996806cad26a2086e886bff562c06d305db6c9f312cf6665862a6738", func := "loop.example/sessiontypes/laws.FnExactProcessValid", spec := "fnExactProcessValid", inPlace := ["internal/bytealg.IndexByteString", "internal/bytealg.IndexString"], unfollowed := true, recurses := true, named := ["internal/bytealg.MaxLen"], loops := true, plainKeys := false, apart := false }
def FnExactProcessValidSaid : Prop := fnExactProcessValidRow.holds Try.pinned (OpenSpec.ofChange fnExactProcessValidSpec)

/-- ITS FALSE NEIGHBOUR: 'it returns false'. Refute it at one input. -/
def fnExactProcessValidWrong : ChangeSpec := { name := "fnExactProcessValid", fn := fun _ => fun
  | [d] => { results := [.lit (.bool false)], args := [d] }
  | _ => none }
def FnExactProcessValidWrongFalsely : Prop := fnExactProcessValidRow.holds Try.pinned (OpenSpec.ofChange fnExactProcessValidWrong)

/-- 'laws.FnExactProcessEqual': WHATEVER THE INPUT: true; the input reads as it did. -/
def fnExactProcessEqualSpec : ChangeSpec := { name := "fnExactProcessEqual", fn := fun _ => fun
  | [d1, d2] => { results := [.lit (.bool true)], args := [d1, d2] }
  | _ => none }
def fnExactProcessEqualRow : OpenClaim := { program := "ytfppglfajbmapaa", sum := "5973a2cf996806cad26a2086e886bff562c06d305db6c9f312cf6665862a6738", func := "loop.example/sessiontypes/laws.FnExactProcessEqual", spec := "fnExactProcessEqual", unfollowed := true, recurses := true, loops := true, plainKeys := false, apart := false }
def FnExactProcessEqualSaid : Prop := fnExactProcessEqualRow.holds Try.pinned (OpenSpec.ofChange fnExactProcessEqualSpec)

/-- ITS FALSE NEIGHBOUR: 'it returns false'. Refute it at one input. -/
def fnExactProcessEqualWrong : ChangeSpec := { name := "fnExactProcessEqual", fn := fun _ => fun
  | [d1, d2] => { results := [.lit (.bool false)], args := [d1, d2] }
  | _ => none }
def FnExactProcessEqualWrongFalsely : Prop := fnExactProcessEqualRow.holds Try.pinned (OpenSpec.ofChange fnExactProcessEqualWrong)

/- THE SECOND FORM. 'bulk': how many values and letters a reading holds, each counted each time it is reached (what is shared counts as often as it is met; a slice's spare places count too). A statement '..UptoSaid' is the law's where the arguments, and the package variables that the reading takes, are together of bulk at most 1048576: NARROWER than '..Said'. Prove '..Said' where nothing that the law and all that it calls make is longer than what came in: it says more and counts as full. Else prove '..UptoSaid'. A law counts once. -/
mutual
def uptoBulk {H : Type} : DataW H → Nat
  | .lit (.string bytes) => bytes.length + 1
  | .lit _ => 1
  | .nil => 1
  | .ptr d => uptoBulk d + 1
  | .slice elems spare => uptoBulkAll elems + uptoBulkAll spare + 1
  | .agg parts => uptoBulkAll parts + 1
  | .iface _ d => uptoBulk d + 1
  | .map entries => uptoBulkEntries entries + 1
  | .held _ => 1
def uptoBulkAll {H : Type} : List (DataW H) → Nat
  | [] => 0
  | d :: r => uptoBulk d + uptoBulkAll r
def uptoBulkEntries {H : Type} : List (Lit × DataW H) → Nat
  | [] => 0
  | x :: r => uptoBulkEntry x + uptoBulkEntries r
def uptoBulkEntry {H : Type} : Lit × DataW H → Nat
  | (.string bytes, d) => bytes.length + uptoBulk d + 1
  | (_, d) => uptoBulk d + 1
 end
def uptoSmall : (H : Type) → List (DataW H) → Bool := fun _ ds => decide (uptoBulkAll ds ≤ 1048576)
def OpenSpec.upto (s : _root_.Go.ChangeSpec) : _root_.Go.OpenSpec := { _root_.Go.OpenSpec.ofChange s with cond := some uptoSmall }

/-- 'laws.FnLinkEqual', WHERE WHAT IT READS IS OF BULK AT MOST 1048576: true; the input reads as it did. -/
def fnLinkEqualUptoRow : OpenClaim := { program := "ytfppglfajbmapaa", sum := "5973a2cf996806cad26a2086e886bff562c06d305db6c9f312cf6665862a6738", func := "loop.example/sessiontypes/laws.FnLinkEqual", spec := "fnLinkEqual", plainKeys := false, apart := false, narrowed := true }
def FnLinkEqualUptoSaid : Prop := fnLinkEqualUptoRow.holds Try.pinned (OpenSpec.upto fnLinkEqualSpec)

/-- 'laws.FnExactLocalEquivalent', WHERE WHAT IT READS IS OF BULK AT MOST 1048576: true; the input reads as it did. -/
def fnExactLocalEquivalentUptoRow : OpenClaim := { program := "ytfppglfajbmapaa", sum := "5973a2cf996806cad26a2086e886bff562c06d305db6c9f312cf6665862a6738", func := "loop.example/sessiontypes/laws.FnExactLocalEquivalent", spec := "fnExactLocalEquivalent", inPlace := ["internal/bytealg.IndexByteString", "internal/bytealg.IndexString"], unfollowed := true, recurses := true, named := ["internal/bytealg.MaxLen"], loops := true, plainKeys := false, apart := false, narrowed := true }
def FnExactLocalEquivalentUptoSaid : Prop := fnExactLocalEquivalentUptoRow.holds Try.pinned (OpenSpec.upto fnExactLocalEquivalentSpec)

/-- 'laws.FnExactIsSubtype', WHERE WHAT IT READS IS OF BULK AT MOST 1048576: true; the input reads as it did. -/
def fnExactIsSubtypeUptoRow : OpenClaim := { program := "ytfppglfajbmapaa", sum := "5973a2cf996806cad26a2086e886bff562c06d305db6c9f312cf6665862a6738", func := "loop.example/sessiontypes/laws.FnExactIsSubtype", spec := "fnExactIsSubtype", inPlace := ["internal/bytealg.IndexByteString", "internal/bytealg.IndexString"], unfollowed := true, recurses := true, named := ["internal/bytealg.MaxLen"], loops := true, plainKeys := false, apart := false, narrowed := true }
def FnExactIsSubtypeUptoSaid : Prop := fnExactIsSubtypeUptoRow.holds Try.pinned (OpenSpec.upto fnExactIsSubtypeSpec)

/-- 'laws.FnExactProcessValid', WHERE WHAT IT READS IS OF BULK AT MOST 1048576: true; the input reads as it did. -/
def fnExactProcessValidUptoRow : OpenClaim := { program := "ytfppglfajbmapaa", sum := "5973a2cf996806cad26a2086e886bff562c06d305db6c9f312cf6665862a6738", func := "loop.example/sessiontypes/laws.FnExactProcessValid", spec := "fnExactProcessValid", inPlace := ["internal/bytealg.IndexByteString", "internal/bytealg.IndexString"], unfollowed := true, recurses := true, named := ["internal/bytealg.MaxLen"], loops := true, plainKeys := false, apart := false, narrowed := true }
def FnExactProcessValidUptoSaid : Prop := fnExactProcessValidUptoRow.holds Try.pinned (OpenSpec.upto fnExactProcessValidSpec)

/-- 'laws.FnExactProcessEqual', WHERE WHAT IT READS IS OF BULK AT MOST 1048576: true; the input reads as it did. -/
def fnExactProcessEqualUptoRow : OpenClaim := { program := "ytfppglfajbmapaa", sum := "5973a2cf996806cad26a2086e886bff562c06d305db6c9f312cf6665862a6738", func := "loop.example/sessiontypes/laws.FnExactProcessEqual", spec := "fnExactProcessEqual", unfollowed := true, recurses := true, loops := true, plainKeys := false, apart := false, narrowed := true }
def FnExactProcessEqualUptoSaid : Prop := fnExactProcessEqualUptoRow.holds Try.pinned (OpenSpec.upto fnExactProcessEqualSpec)

end Rows
end Go.Proofs.Ytfppglfajbmapaa
