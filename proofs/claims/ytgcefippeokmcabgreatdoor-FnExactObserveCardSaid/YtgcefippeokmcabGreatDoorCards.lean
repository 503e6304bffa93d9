/-
  DERIVED. GIVEN WITH THE SEED: THE CARDS: each row of YtgcefippeokmcabGreatDoorRows.lean that lists a variable, with what it lists TIED to the program's text (the seventh form; the later family's looks); each row that meets fmt, with fmt's text TOLD by the authors' own Lean function (tested against real Go, not proved from fmt's source: count such statements apart). THE CARD IS WHAT COUNTS. Prove the row's statement (the work); the ties are given (YtgcefippeokmcabGreatDoorTie.lean); close each card by the builder's one call (the guide's Derived/Test/ToyasCard.lean, 'card_holds'). Laid BY PROGRAM, IN A SANDBOX (cutbox-door.mjs). By AI agents, Wed Nov 11 2026. No macro, syntax, notation, axiom, sorry.
-/
import Derived.Test.YtgcefippeokmcabGreatDoorRows
import GoSem.ClaimSeven
namespace Go.Proofs.YtgcefippeokmcabGreatDoor
namespace Rows

/-- THE TIED CARD OF 'laws.FnExactObserve'. -/
def fnExactObserveCard : Claim7 := { stood := { row := fnExactObserveRow, standIns := [], harness := (true, "553f8bbc6b2ae74f06b40641d1cf04ddbff8b9b4f275b6763e776981ba1c0432"), looks := true }, kinds := [], alts := [], laidByText := true, laidKinds := [.data, .data, .data, .sentinel, .sentinel], laidTests := true, laidLooks := .later }
def FnExactObserveCardSaid : Prop := Claim7.holds Tryz.pinned (.plain (OpenSpec.ofChange fnExactObserveSpec)) fnExactObserveCard

/-- THE SECOND FORM's CARD OF 'laws.FnExactObserve'. -/
def fnExactObserveUptoCard : Claim7 := { stood := { row := fnExactObserveUptoRow, standIns := [], harness := (true, "553f8bbc6b2ae74f06b40641d1cf04ddbff8b9b4f275b6763e776981ba1c0432"), looks := true }, kinds := [], alts := [], laidByText := true, laidKinds := [.data, .data, .data, .sentinel, .sentinel], laidTests := true, laidLooks := .later }
def FnExactObserveUptoCardSaid : Prop := Claim7.holds Tryz.pinned (.plain (OpenSpec.upto fnExactObserveSpec)) fnExactObserveUptoCard
end Rows
end Go.Proofs.YtgcefippeokmcabGreatDoor
