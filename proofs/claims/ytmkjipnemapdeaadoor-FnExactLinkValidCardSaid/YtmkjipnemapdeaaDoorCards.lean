/-
  DERIVED. GIVEN WITH THE SEED: THE CARDS: each row of YtmkjipnemapdeaaDoorRows.lean that lists a variable, with what it lists TIED to the program's text (the seventh form; the later family's looks); each row that meets fmt, with fmt's text TOLD by the authors' own Lean function (tested against real Go, not proved from fmt's source: count such statements apart). THE CARD IS WHAT COUNTS. Prove the row's statement (the work); the ties are given (YtmkjipnemapdeaaDoorTie.lean); close each card by the builder's one call (the guide's Derived/Test/ToyasCard.lean, 'card_holds'). Laid BY PROGRAM, IN A SANDBOX (cutbox-door.mjs). By AI agents, Wed Nov 11 2026. No macro, syntax, notation, axiom, sorry.
-/
import Derived.Test.YtmkjipnemapdeaaDoorRows
import GoSem.ClaimSeven
namespace Go.Proofs.YtmkjipnemapdeaaDoor
namespace Rows

/-- THE TIED CARD OF 'laws.FnExactLinkValid'. -/
def fnExactLinkValidCard : Claim7 := { stood := { row := fnExactLinkValidRow, standIns := [], harness := (true, "d5fb9a94a77e1334cb51b2bd26bbe013be48494e37723efa87b8803fbfbcf869"), looks := false }, kinds := [], alts := [], laidByText := true, laidKinds := [.data, .pinned], laidTests := true, laidLooks := .later }
def FnExactLinkValidCardSaid : Prop := Claim7.holds Tryd.pinned (.plain (OpenSpec.ofChange fnExactLinkValidSpec)) fnExactLinkValidCard

/-- THE TIED CARD OF 'laws.FnExactLinkSent'. -/
def fnExactLinkSentCard : Claim7 := { stood := { row := fnExactLinkSentRow, standIns := [], harness := (true, "d5fb9a94a77e1334cb51b2bd26bbe013be48494e37723efa87b8803fbfbcf869"), looks := false }, kinds := [], alts := [], laidByText := true, laidKinds := [.data, .pinned], laidTests := true, laidLooks := .later }
def FnExactLinkSentCardSaid : Prop := Claim7.holds Tryd.pinned (.plain (OpenSpec.ofChange fnExactLinkSentSpec)) fnExactLinkSentCard

/-- THE TIED CARD OF 'laws.FnExactApplyEvent'. -/
def fnExactApplyEventCard : Claim7 := { stood := { row := fnExactApplyEventRow, standIns := [], harness := (true, "d5fb9a94a77e1334cb51b2bd26bbe013be48494e37723efa87b8803fbfbcf869"), looks := false }, kinds := [], alts := [], laidByText := true, laidKinds := [.data, .pinned], laidTests := true, laidLooks := .later }
def FnExactApplyEventCardSaid : Prop := Claim7.holds Tryd.pinned (.plain (OpenSpec.ofChange fnExactApplyEventSpec)) fnExactApplyEventCard

/-- THE SECOND FORM's CARD OF 'laws.FnExactLinkValid'. -/
def fnExactLinkValidUptoCard : Claim7 := { stood := { row := fnExactLinkValidUptoRow, standIns := [], harness := (true, "d5fb9a94a77e1334cb51b2bd26bbe013be48494e37723efa87b8803fbfbcf869"), looks := false }, kinds := [], alts := [], laidByText := true, laidKinds := [.data, .pinned], laidTests := true, laidLooks := .later }
def FnExactLinkValidUptoCardSaid : Prop := Claim7.holds Tryd.pinned (.plain (OpenSpec.upto fnExactLinkValidSpec)) fnExactLinkValidUptoCard

/-- THE SECOND FORM's CARD OF 'laws.FnExactLinkSent'. -/
def fnExactLinkSentUptoCard : Claim7 := { stood := { row := fnExactLinkSentUptoRow, standIns := [], harness := (true, "d5fb9a94a77e1334cb51b2bd26bbe013be48494e37723efa87b8803fbfbcf869"), looks := false }, kinds := [], alts := [], laidByText := true, laidKinds := [.data, .pinned], laidTests := true, laidLooks := .later }
def FnExactLinkSentUptoCardSaid : Prop := Claim7.holds Tryd.pinned (.plain (OpenSpec.upto fnExactLinkSentSpec)) fnExactLinkSentUptoCard

/-- THE SECOND FORM's CARD OF 'laws.FnExactApplyEvent'. -/
def fnExactApplyEventUptoCard : Claim7 := { stood := { row := fnExactApplyEventUptoRow, standIns := [], harness := (true, "d5fb9a94a77e1334cb51b2bd26bbe013be48494e37723efa87b8803fbfbcf869"), looks := false }, kinds := [], alts := [], laidByText := true, laidKinds := [.data, .pinned], laidTests := true, laidLooks := .later }
def FnExactApplyEventUptoCardSaid : Prop := Claim7.holds Tryd.pinned (.plain (OpenSpec.upto fnExactApplyEventSpec)) fnExactApplyEventUptoCard
end Rows
end Go.Proofs.YtmkjipnemapdeaaDoor
