/-
  DERIVED. GIVEN WITH THE SEED: THE CARDS: each row of YtfppglfajbmapaaDoorRows.lean that lists a variable, with what it lists TIED to the program's text (the seventh form; the later family's looks); each row that meets fmt, with fmt's text TOLD by the authors' own Lean function (tested against real Go, not proved from fmt's source: count such statements apart). THE CARD IS WHAT COUNTS. Prove the row's statement (the work); the ties are given (YtfppglfajbmapaaDoorTie.lean); close each card by the builder's one call (the guide's Derived/Test/ToyasCard.lean, 'card_holds'). Laid BY PROGRAM, IN A SANDBOX (cutbox-door.mjs). By AI agents, Wed Nov 11 2026. No macro, syntax, notation, axiom, sorry.
-/
import Derived.Test.YtfppglfajbmapaaDoorRows
import GoSem.ClaimSeven
namespace Go.Proofs.YtfppglfajbmapaaDoor
namespace Rows

/-- THE TIED CARD OF 'laws.FnGlobalEqual'. -/
def fnGlobalEqualCard : Claim7 := { stood := { row := fnGlobalEqualRow, standIns := [], harness := (true, "0a76d47e847af1fbecd2654603a86c010486ea9b8eb2ee2c8b040ff3c62f7357"), looks := true }, kinds := [], alts := [], laidByText := true, laidKinds := [.data, .data, .data], laidTests := true, laidLooks := .later }
def FnGlobalEqualCardSaid : Prop := Claim7.holds Tryd.pinned (.plain (OpenSpec.ofChange fnGlobalEqualSpec)) fnGlobalEqualCard

/-- THE TIED CARD OF 'laws.FnLocalVacuous'. -/
def fnLocalVacuousCard : Claim7 := { stood := { row := fnLocalVacuousRow, standIns := [], harness := (true, "0a76d47e847af1fbecd2654603a86c010486ea9b8eb2ee2c8b040ff3c62f7357"), looks := true }, kinds := [], alts := [], laidByText := true, laidKinds := [.data, .data, .data], laidTests := true, laidLooks := .later }
def FnLocalVacuousCardSaid : Prop := Claim7.holds Tryd.pinned (.plain (OpenSpec.ofChange fnLocalVacuousSpec)) fnLocalVacuousCard

/-- THE TIED CARD OF 'laws.FnExactFormatLocal'. -/
def fnExactFormatLocalCard : Claim7 := { stood := { row := fnExactFormatLocalRow, standIns := [], harness := (true, "0a76d47e847af1fbecd2654603a86c010486ea9b8eb2ee2c8b040ff3c62f7357"), looks := true }, kinds := [], alts := [], laidByText := true, laidKinds := [.data, .data, .data], laidTests := true, laidLooks := .later }
def FnExactFormatLocalCardSaid : Prop := Claim7.holds Tryd.pinned (.plain (OpenSpec.ofChange fnExactFormatLocalSpec)) fnExactFormatLocalCard

/-- THE TIED CARD OF 'laws.FnExactLocalPeers'. -/
def fnExactLocalPeersCard : Claim7 := { stood := { row := fnExactLocalPeersRow, standIns := [], harness := (true, "0a76d47e847af1fbecd2654603a86c010486ea9b8eb2ee2c8b040ff3c62f7357"), looks := true }, kinds := [], alts := [], laidByText := true, laidKinds := [.data, .data, .data], laidTests := true, laidLooks := .later }
def FnExactLocalPeersCardSaid : Prop := Claim7.holds Tryd.pinned (.plain (OpenSpec.ofChange fnExactLocalPeersSpec)) fnExactLocalPeersCard

/-- THE TIED CARD OF 'laws.FnExactApplyEvent'. -/
def fnExactApplyEventCard : Claim7 := { stood := { row := fnExactApplyEventRow, standIns := [], harness := (true, "0a76d47e847af1fbecd2654603a86c010486ea9b8eb2ee2c8b040ff3c62f7357"), looks := true }, kinds := [], alts := [], laidByText := true, laidKinds := [.data, .pinned], laidTests := true, laidLooks := .later }
def FnExactApplyEventCardSaid : Prop := Claim7.holds Tryd.pinned (.plain (OpenSpec.ofChange fnExactApplyEventSpec)) fnExactApplyEventCard

/-- THE SECOND FORM's CARD OF 'laws.FnGlobalEqual'. -/
def fnGlobalEqualUptoCard : Claim7 := { stood := { row := fnGlobalEqualUptoRow, standIns := [], harness := (true, "0a76d47e847af1fbecd2654603a86c010486ea9b8eb2ee2c8b040ff3c62f7357"), looks := true }, kinds := [], alts := [], laidByText := true, laidKinds := [.data, .data, .data], laidTests := true, laidLooks := .later }
def FnGlobalEqualUptoCardSaid : Prop := Claim7.holds Tryd.pinned (.plain (OpenSpec.upto fnGlobalEqualSpec)) fnGlobalEqualUptoCard

/-- THE SECOND FORM's CARD OF 'laws.FnLocalVacuous'. -/
def fnLocalVacuousUptoCard : Claim7 := { stood := { row := fnLocalVacuousUptoRow, standIns := [], harness := (true, "0a76d47e847af1fbecd2654603a86c010486ea9b8eb2ee2c8b040ff3c62f7357"), looks := true }, kinds := [], alts := [], laidByText := true, laidKinds := [.data, .data, .data], laidTests := true, laidLooks := .later }
def FnLocalVacuousUptoCardSaid : Prop := Claim7.holds Tryd.pinned (.plain (OpenSpec.upto fnLocalVacuousSpec)) fnLocalVacuousUptoCard

/-- THE SECOND FORM's CARD OF 'laws.FnExactFormatLocal'. -/
def fnExactFormatLocalUptoCard : Claim7 := { stood := { row := fnExactFormatLocalUptoRow, standIns := [], harness := (true, "0a76d47e847af1fbecd2654603a86c010486ea9b8eb2ee2c8b040ff3c62f7357"), looks := true }, kinds := [], alts := [], laidByText := true, laidKinds := [.data, .data, .data], laidTests := true, laidLooks := .later }
def FnExactFormatLocalUptoCardSaid : Prop := Claim7.holds Tryd.pinned (.plain (OpenSpec.upto fnExactFormatLocalSpec)) fnExactFormatLocalUptoCard

/-- THE SECOND FORM's CARD OF 'laws.FnExactLocalPeers'. -/
def fnExactLocalPeersUptoCard : Claim7 := { stood := { row := fnExactLocalPeersUptoRow, standIns := [], harness := (true, "0a76d47e847af1fbecd2654603a86c010486ea9b8eb2ee2c8b040ff3c62f7357"), looks := true }, kinds := [], alts := [], laidByText := true, laidKinds := [.data, .data, .data], laidTests := true, laidLooks := .later }
def FnExactLocalPeersUptoCardSaid : Prop := Claim7.holds Tryd.pinned (.plain (OpenSpec.upto fnExactLocalPeersSpec)) fnExactLocalPeersUptoCard

/-- THE SECOND FORM's CARD OF 'laws.FnExactApplyEvent'. -/
def fnExactApplyEventUptoCard : Claim7 := { stood := { row := fnExactApplyEventUptoRow, standIns := [], harness := (true, "0a76d47e847af1fbecd2654603a86c010486ea9b8eb2ee2c8b040ff3c62f7357"), looks := true }, kinds := [], alts := [], laidByText := true, laidKinds := [.data, .pinned], laidTests := true, laidLooks := .later }
def FnExactApplyEventUptoCardSaid : Prop := Claim7.holds Tryd.pinned (.plain (OpenSpec.upto fnExactApplyEventSpec)) fnExactApplyEventUptoCard
end Rows
end Go.Proofs.YtfppglfajbmapaaDoor
