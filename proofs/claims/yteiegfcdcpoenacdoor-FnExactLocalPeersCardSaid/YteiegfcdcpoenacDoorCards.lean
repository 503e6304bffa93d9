/-
  DERIVED. GIVEN WITH THE SEED: THE CARDS: each row of YteiegfcdcpoenacDoorRows.lean that lists a variable, with what it lists TIED to the program's text (the seventh form; the later family's looks); each row that meets fmt, with fmt's text TOLD by the authors' own Lean function (tested against real Go, not proved from fmt's source: count such statements apart). THE CARD IS WHAT COUNTS. Prove the row's statement (the work); the ties are given (YteiegfcdcpoenacDoorTie.lean); close each card by the builder's one call (the guide's Derived/Test/ToyasCard.lean, 'card_holds'). Laid BY PROGRAM, IN A SANDBOX (cutbox-door.mjs). By AI agents, Wed Nov 11 2026. No macro, syntax, notation, axiom, sorry.
-/
import Derived.Test.YteiegfcdcpoenacDoorRows
import GoSem.ClaimSeven
namespace Go.Proofs.YteiegfcdcpoenacDoor
namespace Rows

/-- THE TIED CARD OF 'laws.FnExactLocalPeers'. -/
def fnExactLocalPeersCard : Claim7 := { stood := { row := fnExactLocalPeersRow, standIns := [], harness := (true, "dd30fd0848611f7258bff1e1a37e80ce077aa6285255d48b64bf342555f8f0f3"), looks := true }, kinds := [], alts := [], laidByText := true, laidKinds := [.data, .data, .data], laidTests := true, laidLooks := .later }
def FnExactLocalPeersCardSaid : Prop := Claim7.holds Tryd.pinned (.plain (OpenSpec.ofChange fnExactLocalPeersSpec)) fnExactLocalPeersCard

/-- THE SECOND FORM's CARD OF 'laws.FnExactLocalPeers'. -/
def fnExactLocalPeersUptoCard : Claim7 := { stood := { row := fnExactLocalPeersUptoRow, standIns := [], harness := (true, "dd30fd0848611f7258bff1e1a37e80ce077aa6285255d48b64bf342555f8f0f3"), looks := true }, kinds := [], alts := [], laidByText := true, laidKinds := [.data, .data, .data], laidTests := true, laidLooks := .later }
def FnExactLocalPeersUptoCardSaid : Prop := Claim7.holds Tryd.pinned (.plain (OpenSpec.upto fnExactLocalPeersSpec)) fnExactLocalPeersUptoCard
end Rows
end Go.Proofs.YteiegfcdcpoenacDoor
