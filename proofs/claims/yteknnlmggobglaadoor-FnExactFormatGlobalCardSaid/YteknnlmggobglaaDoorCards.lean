/-
  DERIVED. GIVEN WITH THE SEED: THE CARDS: each row of YteknnlmggobglaaDoorRows.lean that lists a variable, with what it lists TIED to the program's text (the seventh form; the later family's looks); each row that meets fmt, with fmt's text TOLD by the authors' own Lean function (tested against real Go, not proved from fmt's source: count such statements apart). THE CARD IS WHAT COUNTS. Prove the row's statement (the work); the ties are given (YteknnlmggobglaaDoorTie.lean); close each card by the builder's one call (the guide's Derived/Test/ToyasCard.lean, 'card_holds'). Laid BY PROGRAM, IN A SANDBOX (cutbox-door.mjs). By AI agents, Wed Nov 11 2026. No macro, syntax, notation, axiom, sorry.
-/
import Derived.Test.YteknnlmggobglaaDoorRows
import GoSem.ClaimSeven
namespace Go.Proofs.YteknnlmggobglaaDoor
namespace Rows

/-- THE TIED CARD OF 'laws.FnExactFormatGlobal'. -/
def fnExactFormatGlobalCard : Claim7 := { stood := { row := fnExactFormatGlobalRow, standIns := [], harness := (true, "db6d6eb45240d1655530c9ce6fc0cb638eaa2ad88c993f7cb93cc43dec81ccf9"), looks := true }, kinds := [], alts := [], laidByText := true, laidKinds := [.data, .data, .data], laidTests := true, laidLooks := .later }
def FnExactFormatGlobalCardSaid : Prop := Claim7.holds Tryd.pinned (.plain (OpenSpec.ofChange fnExactFormatGlobalSpec)) fnExactFormatGlobalCard

/-- THE TIED CARD OF 'laws.FnExactGlobalRoles'. -/
def fnExactGlobalRolesCard : Claim7 := { stood := { row := fnExactGlobalRolesRow, standIns := [], harness := (true, "db6d6eb45240d1655530c9ce6fc0cb638eaa2ad88c993f7cb93cc43dec81ccf9"), looks := true }, kinds := [], alts := [], laidByText := true, laidKinds := [.data, .data, .data], laidTests := true, laidLooks := .later }
def FnExactGlobalRolesCardSaid : Prop := Claim7.holds Tryd.pinned (.plain (OpenSpec.ofChange fnExactGlobalRolesSpec)) fnExactGlobalRolesCard

/-- THE SECOND FORM's CARD OF 'laws.FnExactFormatGlobal'. -/
def fnExactFormatGlobalUptoCard : Claim7 := { stood := { row := fnExactFormatGlobalUptoRow, standIns := [], harness := (true, "db6d6eb45240d1655530c9ce6fc0cb638eaa2ad88c993f7cb93cc43dec81ccf9"), looks := true }, kinds := [], alts := [], laidByText := true, laidKinds := [.data, .data, .data], laidTests := true, laidLooks := .later }
def FnExactFormatGlobalUptoCardSaid : Prop := Claim7.holds Tryd.pinned (.plain (OpenSpec.upto fnExactFormatGlobalSpec)) fnExactFormatGlobalUptoCard

/-- THE SECOND FORM's CARD OF 'laws.FnExactGlobalRoles'. -/
def fnExactGlobalRolesUptoCard : Claim7 := { stood := { row := fnExactGlobalRolesUptoRow, standIns := [], harness := (true, "db6d6eb45240d1655530c9ce6fc0cb638eaa2ad88c993f7cb93cc43dec81ccf9"), looks := true }, kinds := [], alts := [], laidByText := true, laidKinds := [.data, .data, .data], laidTests := true, laidLooks := .later }
def FnExactGlobalRolesUptoCardSaid : Prop := Claim7.holds Tryd.pinned (.plain (OpenSpec.upto fnExactGlobalRolesSpec)) fnExactGlobalRolesUptoCard
end Rows
end Go.Proofs.YteknnlmggobglaaDoor
