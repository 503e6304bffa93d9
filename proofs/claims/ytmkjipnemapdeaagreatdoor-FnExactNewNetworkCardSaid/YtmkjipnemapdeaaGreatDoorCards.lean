/-
  DERIVED. GIVEN WITH THE SEED: THE CARDS: each row of YtmkjipnemapdeaaGreatDoorRows.lean that lists a variable, with what it lists TIED to the program's text (the seventh form; the later family's looks); each row that meets fmt, with fmt's text TOLD by the authors' own Lean function (tested against real Go, not proved from fmt's source: count such statements apart). THE CARD IS WHAT COUNTS. Prove the row's statement (the work); the ties are given (YtmkjipnemapdeaaGreatDoorTie.lean); close each card by the builder's one call (the guide's Derived/Test/ToyasCard.lean, 'card_holds'). Laid BY PROGRAM, IN A SANDBOX (cutbox-door.mjs). By AI agents, Wed Nov 11 2026. No macro, syntax, notation, axiom, sorry.
-/
import Derived.Test.YtmkjipnemapdeaaGreatDoorRows
import GoSem.ClaimSeven
namespace Go.Proofs.YtmkjipnemapdeaaGreatDoor
namespace Rows

/-- THE TIED CARD OF 'laws.FnExactObserve'. -/
def fnExactObserveCard : Claim7 := { stood := { row := fnExactObserveRow, standIns := [], harness := (true, "b2b5257abfa9953f36c0b70de8f106b7b60dca4df89cf189502c586ef2d100a6"), looks := true }, kinds := [], alts := [], laidByText := true, laidKinds := [.data, .data, .data, .sentinel, .sentinel], laidTests := true, laidLooks := .later }
def FnExactObserveCardSaid : Prop := Claim7.holds Tryz.pinned (.plain (OpenSpec.ofChange fnExactObserveSpec)) fnExactObserveCard

/-- THE TIED CARD OF 'laws.FnExactNetworkValid'. -/
def fnExactNetworkValidCard : Claim7 := { stood := { row := fnExactNetworkValidRow, standIns := [], harness := (true, "b2b5257abfa9953f36c0b70de8f106b7b60dca4df89cf189502c586ef2d100a6"), looks := true }, kinds := [], alts := [], laidByText := true, laidKinds := [.data, .data, .data, .data, .pinned], laidTests := true, laidLooks := .later }
def FnExactNetworkValidCardSaid : Prop := Claim7.holds Tryz.pinned (.plain (OpenSpec.ofChange fnExactNetworkValidSpec)) fnExactNetworkValidCard

/-- THE TIED CARD OF 'laws.FnExactQueueContents'. -/
def fnExactQueueContentsCard : Claim7 := { stood := { row := fnExactQueueContentsRow, standIns := [], harness := (true, "b2b5257abfa9953f36c0b70de8f106b7b60dca4df89cf189502c586ef2d100a6"), looks := true }, kinds := [], alts := [], laidByText := true, laidKinds := [.data, .data, .data, .data, .pinned], laidTests := true, laidLooks := .later }
def FnExactQueueContentsCardSaid : Prop := Claim7.holds Tryz.pinned (.plain (OpenSpec.ofChange fnExactQueueContentsSpec)) fnExactQueueContentsCard

/-- THE TIED CARD OF 'laws.FnExactNewNetwork'. -/
def fnExactNewNetworkCard : Claim7 := { stood := { row := fnExactNewNetworkRow, standIns := [], harness := (true, "b2b5257abfa9953f36c0b70de8f106b7b60dca4df89cf189502c586ef2d100a6"), looks := true }, kinds := [], alts := [], laidByText := true, laidKinds := [.data, .data, .data, .data, .pinned], laidTests := true, laidLooks := .later }
def FnExactNewNetworkCardSaid : Prop := Claim7.holds Tryz.pinned (.plain (OpenSpec.ofChange fnExactNewNetworkSpec)) fnExactNewNetworkCard

/-- THE SECOND FORM's CARD OF 'laws.FnExactObserve'. -/
def fnExactObserveUptoCard : Claim7 := { stood := { row := fnExactObserveUptoRow, standIns := [], harness := (true, "b2b5257abfa9953f36c0b70de8f106b7b60dca4df89cf189502c586ef2d100a6"), looks := true }, kinds := [], alts := [], laidByText := true, laidKinds := [.data, .data, .data, .sentinel, .sentinel], laidTests := true, laidLooks := .later }
def FnExactObserveUptoCardSaid : Prop := Claim7.holds Tryz.pinned (.plain (OpenSpec.upto fnExactObserveSpec)) fnExactObserveUptoCard

/-- THE SECOND FORM's CARD OF 'laws.FnExactNetworkValid'. -/
def fnExactNetworkValidUptoCard : Claim7 := { stood := { row := fnExactNetworkValidUptoRow, standIns := [], harness := (true, "b2b5257abfa9953f36c0b70de8f106b7b60dca4df89cf189502c586ef2d100a6"), looks := true }, kinds := [], alts := [], laidByText := true, laidKinds := [.data, .data, .data, .data, .pinned], laidTests := true, laidLooks := .later }
def FnExactNetworkValidUptoCardSaid : Prop := Claim7.holds Tryz.pinned (.plain (OpenSpec.upto fnExactNetworkValidSpec)) fnExactNetworkValidUptoCard

/-- THE SECOND FORM's CARD OF 'laws.FnExactQueueContents'. -/
def fnExactQueueContentsUptoCard : Claim7 := { stood := { row := fnExactQueueContentsUptoRow, standIns := [], harness := (true, "b2b5257abfa9953f36c0b70de8f106b7b60dca4df89cf189502c586ef2d100a6"), looks := true }, kinds := [], alts := [], laidByText := true, laidKinds := [.data, .data, .data, .data, .pinned], laidTests := true, laidLooks := .later }
def FnExactQueueContentsUptoCardSaid : Prop := Claim7.holds Tryz.pinned (.plain (OpenSpec.upto fnExactQueueContentsSpec)) fnExactQueueContentsUptoCard

/-- THE SECOND FORM's CARD OF 'laws.FnExactNewNetwork'. -/
def fnExactNewNetworkUptoCard : Claim7 := { stood := { row := fnExactNewNetworkUptoRow, standIns := [], harness := (true, "b2b5257abfa9953f36c0b70de8f106b7b60dca4df89cf189502c586ef2d100a6"), looks := true }, kinds := [], alts := [], laidByText := true, laidKinds := [.data, .data, .data, .data, .pinned], laidTests := true, laidLooks := .later }
def FnExactNewNetworkUptoCardSaid : Prop := Claim7.holds Tryz.pinned (.plain (OpenSpec.upto fnExactNewNetworkSpec)) fnExactNewNetworkUptoCard
end Rows
end Go.Proofs.YtmkjipnemapdeaaGreatDoor
