/-
  DERIVED. GIVEN WITH THE SEED: THE CARDS: each row of YtnlihdcjpeabfaaGreatDoorRows.lean that lists a variable, with what it lists TIED to the program's text (the seventh form; the later family's looks); each row that meets fmt, with fmt's text TOLD by the authors' own Lean function (tested against real Go, not proved from fmt's source: count such statements apart). THE CARD IS WHAT COUNTS. Prove the row's statement (the work); the ties are given (YtnlihdcjpeabfaaGreatDoorTie.lean); close each card by the builder's one call (the guide's Derived/Test/ToyasCard.lean, 'card_holds'). Laid BY PROGRAM, IN A SANDBOX (cutbox-door.mjs). By AI agents, Wed Nov 11 2026. No macro, syntax, notation, axiom, sorry.
-/
import Derived.Test.YtnlihdcjpeabfaaGreatDoorRows
import GoSem.ClaimSeven
namespace Go.Proofs.YtnlihdcjpeabfaaGreatDoor
namespace Rows

/-- THE TIED CARD OF 'laws.FnExactNetworkFinished'. -/
def fnExactNetworkFinishedCard : Claim7 := { stood := { row := fnExactNetworkFinishedRow, standIns := [], harness := (true, "c70ae235a040817996eed0fcf926aae0f82bf7c3124d5ba8128e9cbd904dbe29"), looks := true }, kinds := [], alts := [], laidByText := true, laidKinds := [.data, .data, .data, .data, .pinned], laidTests := true, laidLooks := .later }
def FnExactNetworkFinishedCardSaid : Prop := Claim7.holds Tryz.pinned (.plain (OpenSpec.ofChange fnExactNetworkFinishedSpec)) fnExactNetworkFinishedCard

/-- THE SECOND FORM's CARD OF 'laws.FnExactNetworkFinished'. -/
def fnExactNetworkFinishedUptoCard : Claim7 := { stood := { row := fnExactNetworkFinishedUptoRow, standIns := [], harness := (true, "c70ae235a040817996eed0fcf926aae0f82bf7c3124d5ba8128e9cbd904dbe29"), looks := true }, kinds := [], alts := [], laidByText := true, laidKinds := [.data, .data, .data, .data, .pinned], laidTests := true, laidLooks := .later }
def FnExactNetworkFinishedUptoCardSaid : Prop := Claim7.holds Tryz.pinned (.plain (OpenSpec.upto fnExactNetworkFinishedSpec)) fnExactNetworkFinishedUptoCard
end Rows
end Go.Proofs.YtnlihdcjpeabfaaGreatDoor
