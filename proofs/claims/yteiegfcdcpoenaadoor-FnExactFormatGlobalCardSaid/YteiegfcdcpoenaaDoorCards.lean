/-
  DERIVED. GIVEN WITH THE SEED: THE CARDS: each row of YteiegfcdcpoenaaDoorRows.lean that lists a variable, with what it lists TIED to the program's text (the seventh form; the later family's looks); each row that meets fmt, with fmt's text TOLD by the authors' own Lean function (tested against real Go, not proved from fmt's source: count such statements apart). THE CARD IS WHAT COUNTS. Prove the row's statement (the work); the ties are given (YteiegfcdcpoenaaDoorTie.lean); close each card by the builder's one call (the guide's Derived/Test/ToyasCard.lean, 'card_holds'). Laid BY PROGRAM, IN A SANDBOX (cutbox-door.mjs). By AI agents, Wed Nov 11 2026. No macro, syntax, notation, axiom, sorry.
-/
import Derived.Test.YteiegfcdcpoenaaDoorRows
import GoSem.ClaimSeven
namespace Go.Proofs.YteiegfcdcpoenaaDoor
namespace Rows

/-- THE TIED CARD OF 'laws.FnLocalUnfold'. -/
def fnLocalUnfoldCard : Claim7 := { stood := { row := fnLocalUnfoldRow, standIns := [], harness := (true, "852dfb14b43f48d029aa135e93f3c6258fd76119d79a8f70e5fbe234c91e90e5"), looks := true }, kinds := [], alts := [], laidByText := true, laidKinds := [.data, .data, .data], laidTests := true, laidLooks := .later }
def FnLocalUnfoldCardSaid : Prop := Claim7.holds Tryd.pinned (.plain (OpenSpec.ofChange fnLocalUnfoldSpec)) fnLocalUnfoldCard

/-- THE TIED CARD OF 'laws.FnExactFormatGlobal'. -/
def fnExactFormatGlobalCard : Claim7 := { stood := { row := fnExactFormatGlobalRow, standIns := [], harness := (true, "852dfb14b43f48d029aa135e93f3c6258fd76119d79a8f70e5fbe234c91e90e5"), looks := true }, kinds := [], alts := [], laidByText := true, laidKinds := [.data, .data, .data], laidTests := true, laidLooks := .later }
def FnExactFormatGlobalCardSaid : Prop := Claim7.holds Tryd.pinned (.plain (OpenSpec.ofChange fnExactFormatGlobalSpec)) fnExactFormatGlobalCard

/-- THE SECOND FORM's CARD OF 'laws.FnLocalUnfold'. -/
def fnLocalUnfoldUptoCard : Claim7 := { stood := { row := fnLocalUnfoldUptoRow, standIns := [], harness := (true, "852dfb14b43f48d029aa135e93f3c6258fd76119d79a8f70e5fbe234c91e90e5"), looks := true }, kinds := [], alts := [], laidByText := true, laidKinds := [.data, .data, .data], laidTests := true, laidLooks := .later }
def FnLocalUnfoldUptoCardSaid : Prop := Claim7.holds Tryd.pinned (.plain (OpenSpec.upto fnLocalUnfoldSpec)) fnLocalUnfoldUptoCard

/-- THE SECOND FORM's CARD OF 'laws.FnExactFormatGlobal'. -/
def fnExactFormatGlobalUptoCard : Claim7 := { stood := { row := fnExactFormatGlobalUptoRow, standIns := [], harness := (true, "852dfb14b43f48d029aa135e93f3c6258fd76119d79a8f70e5fbe234c91e90e5"), looks := true }, kinds := [], alts := [], laidByText := true, laidKinds := [.data, .data, .data], laidTests := true, laidLooks := .later }
def FnExactFormatGlobalUptoCardSaid : Prop := Claim7.holds Tryd.pinned (.plain (OpenSpec.upto fnExactFormatGlobalSpec)) fnExactFormatGlobalUptoCard
end Rows
end Go.Proofs.YteiegfcdcpoenaaDoor
