/-
  DERIVED. GIVEN WITH THE SEED: THE CARDS: each row of YtbonmdkfmgahbaaDoorRows.lean that lists a variable, with what it lists TIED to the program's text (the seventh form; the later family's looks); each row that meets fmt, with fmt's text TOLD by the authors' own Lean function (tested against real Go, not proved from fmt's source: count such statements apart). THE CARD IS WHAT COUNTS. Prove the row's statement (the work); the ties are given (YtbonmdkfmgahbaaDoorTie.lean); close each card by the builder's one call (the guide's Derived/Test/ToyasCard.lean, 'card_holds'). Laid BY PROGRAM, IN A SANDBOX (cutbox-door.mjs). By AI agents, Wed Nov 11 2026. No macro, syntax, notation, axiom, sorry.
-/
import Derived.Test.YtbonmdkfmgahbaaDoorRows
import GoSem.ClaimSeven
namespace Go.Proofs.YtbonmdkfmgahbaaDoor
namespace Rows

/-- THE TIED CARD OF 'laws.FnExactMonitorValid'. -/
def fnExactMonitorValidCard : Claim7 := { stood := { row := fnExactMonitorValidRow, standIns := [], harness := (true, "c4616a343b18d7990aeb63ad5894fe07dad15e6b30f083ab7a9c7e7e759a4755"), looks := true }, kinds := [], alts := [], laidByText := true, laidKinds := [.data, .data, .data], laidTests := true, laidLooks := .later }
def FnExactMonitorValidCardSaid : Prop := Claim7.holds Tryd.pinned (.plain (OpenSpec.ofChange fnExactMonitorValidSpec)) fnExactMonitorValidCard

/-- THE SECOND FORM's CARD OF 'laws.FnExactMonitorValid'. -/
def fnExactMonitorValidUptoCard : Claim7 := { stood := { row := fnExactMonitorValidUptoRow, standIns := [], harness := (true, "c4616a343b18d7990aeb63ad5894fe07dad15e6b30f083ab7a9c7e7e759a4755"), looks := true }, kinds := [], alts := [], laidByText := true, laidKinds := [.data, .data, .data], laidTests := true, laidLooks := .later }
def FnExactMonitorValidUptoCardSaid : Prop := Claim7.holds Tryd.pinned (.plain (OpenSpec.upto fnExactMonitorValidSpec)) fnExactMonitorValidUptoCard
end Rows
end Go.Proofs.YtbonmdkfmgahbaaDoor
