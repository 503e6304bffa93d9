/-
  DERIVED. GIVEN WITH THE SEED: THE CARDS: each row of YteiegfcdcpoenabDoorRows.lean that lists a variable, with what it lists TIED to the program's text (the seventh form; the later family's looks); each row that meets fmt, with fmt's text TOLD by the authors' own Lean function (tested against real Go, not proved from fmt's source: count such statements apart). THE CARD IS WHAT COUNTS. Prove the row's statement (the work); the ties are given (YteiegfcdcpoenabDoorTie.lean); close each card by the builder's one call (the guide's Derived/Test/ToyasCard.lean, 'card_holds'). Laid BY PROGRAM, IN A SANDBOX (cutbox-door.mjs). By AI agents, Wed Nov 11 2026. No macro, syntax, notation, axiom, sorry.
-/
import Derived.Test.YteiegfcdcpoenabDoorRows
import GoSem.ClaimSeven
namespace Go.Proofs.YteiegfcdcpoenabDoor
namespace Rows

/-- THE TIED CARD OF 'laws.FnExactGlobalRoles'. -/
def fnExactGlobalRolesCard : Claim7 := { stood := { row := fnExactGlobalRolesRow, standIns := [], harness := (true, "0a780ca85ee75959881a93490f363701d6b19903e4d0a435d4f859d068f8128b"), looks := true }, kinds := [], alts := [], laidByText := true, laidKinds := [.data, .data, .data], laidTests := true, laidLooks := .later }
def FnExactGlobalRolesCardSaid : Prop := Claim7.holds Tryd.pinned (.plain (OpenSpec.ofChange fnExactGlobalRolesSpec)) fnExactGlobalRolesCard

/-- THE TIED CARD OF 'laws.FnExactFormatLocal'. -/
def fnExactFormatLocalCard : Claim7 := { stood := { row := fnExactFormatLocalRow, standIns := [], harness := (true, "0a780ca85ee75959881a93490f363701d6b19903e4d0a435d4f859d068f8128b"), looks := true }, kinds := [], alts := [], laidByText := true, laidKinds := [.data, .data, .data], laidTests := true, laidLooks := .later }
def FnExactFormatLocalCardSaid : Prop := Claim7.holds Tryd.pinned (.plain (OpenSpec.ofChange fnExactFormatLocalSpec)) fnExactFormatLocalCard

/-- THE SECOND FORM's CARD OF 'laws.FnExactGlobalRoles'. -/
def fnExactGlobalRolesUptoCard : Claim7 := { stood := { row := fnExactGlobalRolesUptoRow, standIns := [], harness := (true, "0a780ca85ee75959881a93490f363701d6b19903e4d0a435d4f859d068f8128b"), looks := true }, kinds := [], alts := [], laidByText := true, laidKinds := [.data, .data, .data], laidTests := true, laidLooks := .later }
def FnExactGlobalRolesUptoCardSaid : Prop := Claim7.holds Tryd.pinned (.plain (OpenSpec.upto fnExactGlobalRolesSpec)) fnExactGlobalRolesUptoCard

/-- THE SECOND FORM's CARD OF 'laws.FnExactFormatLocal'. -/
def fnExactFormatLocalUptoCard : Claim7 := { stood := { row := fnExactFormatLocalUptoRow, standIns := [], harness := (true, "0a780ca85ee75959881a93490f363701d6b19903e4d0a435d4f859d068f8128b"), looks := true }, kinds := [], alts := [], laidByText := true, laidKinds := [.data, .data, .data], laidTests := true, laidLooks := .later }
def FnExactFormatLocalUptoCardSaid : Prop := Claim7.holds Tryd.pinned (.plain (OpenSpec.upto fnExactFormatLocalSpec)) fnExactFormatLocalUptoCard
end Rows
end Go.Proofs.YteiegfcdcpoenabDoor
